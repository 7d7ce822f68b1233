/- Contracts of civil's days of the year, and of its numbers. -/
import Derived.Test.YtcnnfgigpjbcpaaDoorW2
import Derived.Test.YtcnnfgigpjbcpaaDoorNum
namespace Go.Proofs.YtcnnfgigpjbcpaaDoor
open Go.RowKit

/-- Whether a number is a day of the year. -/
def ydB (n : Int) : Bool := decide (1 ≤ n.tdiv 100 ∧ n.tdiv 100 ≤ 12 ∧ 1 ≤ n.tmod 100 ∧ n.tmod 100 ≤ Cal.dim true (n.tdiv 100))
theorem yd_f {n : Int} (h : ¬ (1 ≤ n.tdiv 100 ∧ n.tdiv 100 ≤ 12 ∧ 1 ≤ n.tmod 100 ∧ n.tmod 100 ≤ Cal.dim true (n.tdiv 100))) : false = ydB n := (decide_eq_false h).symm
theorem yd_b {n : Int} (b : Bool) (h1 : 1 ≤ n.tdiv 100) (h2 : n.tdiv 100 ≤ 12) (h3 : 1 ≤ n.tmod 100) (h : b = decide (n.tmod 100 ≤ Cal.ms (n.tdiv 100 + 1) true - Cal.ms (n.tdiv 100) true)) : b = ydB n := by
  rw [h]; unfold ydB Cal.dim; simp [h1, h2, h3]
theorem td_bd (n : Int) (h1 : -9223372036854775808 ≤ n) (h2 : n ≤ 9223372036854775807) : -9223372036854775808 ≤ n.tdiv 100 ∧ n.tdiv 100 ≤ 9223372036854775807 := by
  have := Int.tdiv_eq_ediv (a := n) (b := 100)
  have e : Int.sign 100 = 1 := rfl
  rw [e] at this
  by_cases c : 0 ≤ n ∨ (100 : Int) ∣ n
  · rw [if_pos c] at this; omega
  · rw [if_neg c] at this; omega
set_option maxHeartbeats 800000 in
theorem yearDay_any (n : Int) (w : World) (n1 : -9223372036854775808 ≤ n) (n2 : n ≤ 9223372036854775807) (G : Gl w) : Calls Tryd.prog 68 #[.int .i64 n] w fun e w' => e = .returned (.bool (ydB n)) ∧ w = w' := by
  have hb := td_bd n n1 n2
  have hw : IntKind.i64.wrap (n.tdiv 100) = n.tdiv 100 := IntWalk.i64_in _ (by omega)
  have hw' : wrap64 (n.tdiv 100) = n.tdiv 100 := IntWalk.wrap64_in _ ⟨by omega, by omega⟩
  by_cases c : n.tdiv 100 < 1
  · go_enter Tryd.func68, Tryd.ntmps68
    go_wp2
    go_ret
    exact ⟨ret_bool (yd_f (by omega)), rfl⟩
  by_cases c2 : 12 < n.tdiv 100
  · go_enter Tryd.func68, Tryd.ntmps68
    go_wp2
    go_ret
    exact ⟨ret_bool (yd_f (by omega)), rfl⟩
  by_cases c3 : n.tmod 100 < 1
  · go_enter Tryd.func68, Tryd.ntmps68
    go_wp2
    go_ret
    exact ⟨ret_bool (yd_f (by omega)), rfl⟩
  have b1 := Cal.ms_bd (n.tdiv 100) true (by omega) (by omega)
  have b2 := Cal.ms_bd (n.tdiv 100 + 1) true (by omega) (by omega)
  go_enter Tryd.func68, Tryd.ntmps68
  go_wp2_with (go_at_call 41; refine (ms_any _ _ _ (by omega) (by omega) G).mono ?_; rintro e w' ⟨rfl, rfl⟩)
  go_ret
  exact ⟨ret_bool (yd_b _ (by omega) (by omega) (by omega) rfl), rfl⟩
/-- Whether a day of the year lies from one to another one. -/
def inB (o f t : Int) : Bool := decide (t < f ∧ (f ≤ o ∨ o ≤ t) ∨ f ≤ t ∧ f ≤ o ∧ o ≤ t)
theorem ret2b {a b : Bool} (h : a = b) : Ending.returned (.tuple #[.bool a, .int .i64 0]) = .returned (.tuple #[.bool b, .int .i64 0]) := by rw [h]
theorem in_1 {o f t : Int} (b : Bool) (h : t < f) (e : b = (decide (f ≤ o) || decide (o ≤ t))) : b = inB o f t := by
  rw [e]; unfold inB; rw [Bool.eq_iff_iff]; simp; omega
theorem in_2 {o f t : Int} (b : Bool) (h : f ≤ t) (e : b = (decide (f ≤ o) && decide (o ≤ t))) : b = inB o f t := by
  rw [e]; unfold inB; rw [Bool.eq_iff_iff]; simp; omega
set_option maxHeartbeats 800000 in
theorem yearly_bad (n f t : Int) (w : World) (h : n < 0 ∨ 730484 < n) : Calls Tryd.prog 38 #[.int .i64 n, .int .i64 f, .int .i64 t] w fun e w' => e = .returned (.tuple #[.bool false, .int .i64 (err n 730484)]) ∧ w = w' := by
  have H := Lib.hid (date_bad n w h)
  rcases err_bad h with c | c
  all_goals
    rw [c] at H ⊢
    clear c h
    go_enter Tryd.func38, Tryd.ntmps38
    go_wp2_with (go_at_call 27; refine H.out.mono ?_; rintro e w' ⟨rfl, rfl⟩)
    go_ret2
    exact ⟨rfl, rfl⟩
set_option maxHeartbeats 800000 in
theorem yearly_date {n y m d f t : Int} (w : World) (hd : Cal.IsDate n y m d) (f1 : -9223372036854775808 ≤ f) (f2 : f ≤ 9223372036854775807) (t1 : -9223372036854775808 ≤ t) (t2 : t ≤ 9223372036854775807) (h : ydB f = false ∨ ydB t = false) (G : Gl w) :
    Calls Tryd.prog 38 #[.int .i64 n, .int .i64 f, .int .i64 t] w fun e w' => e = .returned (.tuple #[.bool false, .int .i64 10]) ∧ w = w' := by
  cases hf : ydB f
  · go_enter Tryd.func38, Tryd.ntmps38
    go_wp2_with (first | (go_at_call 27; refine (date_ok _ hd G).mono ?_; rintro e w' ⟨rfl, rfl⟩) | (go_at_call 68; refine (yearDay_any _ _ (by omega) (by omega) G).mono ?_; rintro e w' ⟨rfl, rfl⟩))
    go_ret2
    exact ⟨rfl, rfl⟩
  · have ht : ydB t = false := by rcases h with h | h; · rw [hf] at h; cases h
                                  · exact h
    clear h
    go_enter Tryd.func38, Tryd.ntmps38
    go_wp2_with (first | (go_at_call 27; refine (date_ok _ hd G).mono ?_; rintro e w' ⟨rfl, rfl⟩) | (go_at_call 68; refine (yearDay_any _ _ (by omega) (by omega) G).mono ?_; rintro e w' ⟨rfl, rfl⟩))
    go_ret2
    exact ⟨rfl, rfl⟩
set_option maxHeartbeats 800000 in
theorem yearly_ok {n y m d f t : Int} (w : World) (hd : Cal.IsDate n y m d) (f1 : -9223372036854775808 ≤ f) (f2 : f ≤ 9223372036854775807) (t1 : -9223372036854775808 ≤ t) (t2 : t ≤ 9223372036854775807) (hf : ydB f = true) (ht : ydB t = true) (G : Gl w) :
    Calls Tryd.prog 38 #[.int .i64 n, .int .i64 f, .int .i64 t] w fun e w' => e = .returned (.tuple #[.bool (inB (100 * m + d) f t), .int .i64 0]) ∧ w = w' := by
  have hm1 := hd.m1
  have hm2 := hd.m2
  have hd1 := hd.d1
  have hd2 : d ≤ 31 := Int.le_trans hd.d2 (Cal.dim_bd m _ (by omega) (by omega)).2
  by_cases c : t < f <;> by_cases c2 : f ≤ 100 * m + d
  all_goals
    go_enter Tryd.func38, Tryd.ntmps38
    go_wp2_with (first | (go_at_call 27; refine (date_ok _ hd G).mono ?_; rintro e w' ⟨rfl, rfl⟩) | (go_at_call 68; refine (yearDay_any _ _ (by omega) (by omega) G).mono ?_; rintro e w' ⟨rfl, rfl⟩))
    go_ret2
    refine ⟨ret2b ?_, rfl⟩
    rw [Bool.eq_iff_iff]
    unfold inB
    first | (simp only [Bool.or_eq_true, decide_eq_true_eq]; omega) | (simp only [decide_eq_true_eq, true_iff]; omega) | (simp only [decide_eq_true_eq, Bool.false_eq_true, false_iff]; omega)
set_option maxHeartbeats 800000 in
theorem number_any (s : ByteArray) (w : World) (hs : s.size ≤ 16) : Calls Tryd.prog 50 #[.string s] w fun e w' => e = .returned (.int .i64 (Txt.num s.data.toList)) ∧ w = w' := by
  go_enter Tryd.func50, Tryd.ntmps50
  go_wp2
  go_loop [3, 7] (fun n i => ∃ k : Nat, k ≤ s.size ∧ i = .int .i64 k ∧ (s.data.toList.take k).all Txt.isD = true ∧ n = .int .i64 (Txt.val (s.data.toList.take k))) (fun _ i => s.size - (intOf i).toNat)
  case atStart => exact ⟨0, Nat.zero_le _, rfl, rfl, rfl⟩
  case round =>
    obtain ⟨k, hk, rfl, hd, rfl⟩ := hrel
    have hD := Lib.hid hd
    have hv := Txt.val_bd k (s.data.toList.take k) (by rw [List.length_take]; simp; omega) hd
    have hp : (10 : Int) ^ k ≤ 10 ^ 16 := Txt.p10 (by omega)
    have hv1 := hv.1
    have hv2 : Txt.val (s.data.toList.take k) ≤ 10000000000000000 := by have := hv.2; omega
    clear hd hv hp
    by_cases hlt : k < s.size
    · have hts := Txt.take_snoc s k hlt
      have HS : Hid (Txt.val (s.data.toList.take (k + 1)) = 10 * Txt.val (s.data.toList.take k) + ((s[k].toNat : Int) - 48)) := by rw [hts]; exact Txt.val_snoc _ _
      have HA : Hid ((48 ≤ (s[k].toNat : Int) ∧ (s[k].toNat : Int) ≤ 57) → (s.data.toList.take (k + 1)).all Txt.isD = true) := by
        intro h; rw [hts, List.all_append, hD.out]; simpa using (Txt.isD_iff _).2 h
      clear hts
      have hb : Hid (¬ (48 ≤ (s[k].toNat : Int) ∧ (s[k].toNat : Int) ≤ 57) → -1 = Txt.num s.data.toList) := Txt.num_bad s k hlt
      go_wp2
      · go_ret
        exact ⟨ret_int (hb.out (by omega)), rfl⟩
      · go_round
        case rel => exact ⟨k + 1, by omega, by go_num, HA.out (by omega), by rw [HS.out]⟩
        case measure => simp [intOf]; omega
      · go_ret
        exact ⟨ret_int (hb.out (by omega)), rfl⟩
    · have he : k = s.size := by omega
      have HF : Hid (Txt.val (s.data.toList.take k) = Txt.num s.data.toList) := by
        have := Txt.num_good _ hD.out
        rw [this, List.take_of_length_le (by simp; omega)]
        exact rfl
      clear he
      go_wp2
      go_ret
      exact ⟨ret_int HF.out, rfl⟩
end Go.Proofs.YtcnnfgigpjbcpaaDoor
