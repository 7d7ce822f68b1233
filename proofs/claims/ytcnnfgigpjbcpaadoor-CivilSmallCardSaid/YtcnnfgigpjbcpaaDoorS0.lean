/- What the statements of civil share: a number picked, a day, the next day. -/
import Derived.Test.YtcnnfgigpjbcpaaDoorW10
namespace Go.Proofs.YtcnnfgigpjbcpaaDoor
open Go.RowKit

theorem tmod_bd (n m : Int) (hm : 1 ≤ m) : -m < n.tmod m ∧ n.tmod m < m := by
  have e := Int.tmod_eq_emod (a := n) (b := m)
  have l := Int.emod_nonneg n (show m ≠ 0 by omega)
  have u := Int.emod_lt_of_pos n (show 0 < m by omega)
  by_cases c : 0 ≤ n ∨ m ∣ n
  · rw [if_pos c] at e; omega
  · rw [if_neg c] at e
    have : (m.natAbs : Int) = m := by omega
    rw [this] at e
    have : n % m ≠ 0 := fun x => c (Or.inr (Int.dvd_of_emod_eq_zero x))
    omega
theorem tmod_pos (n m : Int) (hm : 1 ≤ m) (h : 0 ≤ n.tmod m) : n.tmod m = n % m := by
  have e := Int.tmod_eq_emod (a := n) (b := m)
  have u := Int.emod_lt_of_pos n (show 0 < m by omega)
  by_cases c : 0 ≤ n ∨ m ∣ n
  · rw [if_pos c] at e; omega
  · rw [if_neg c] at e; have : (m.natAbs : Int) = m := by omega
    rw [this] at e; omega
theorem tmod_neg (n m : Int) (hm : 1 ≤ m) (h : n.tmod m < 0) : n.tmod m + m = n % m := by
  have e := Int.tmod_eq_emod (a := n) (b := m)
  have l := Int.emod_nonneg n (show m ≠ 0 by omega)
  by_cases c : 0 ≤ n ∨ m ∣ n
  · rw [if_pos c] at e; omega
  · rw [if_neg c] at e; have : (m.natAbs : Int) = m := by omega
    rw [this] at e; omega
set_option maxHeartbeats 800000 in
theorem pick_any (n m : Int) (w : World) (hm : 1 ≤ m) (hm2 : m ≤ 4611686018427387904) :
    Calls Tryd.prog 26 #[.int .i64 n, .int .i64 m] w fun e w' => e = .returned (.int .i64 (n % m)) ∧ w = w' := by
  have hb := tmod_bd n m hm
  obtain ⟨hb1, hb2⟩ := hb
  have hm0 : (m == 0) = false := by simp; omega
  have hw : IntKind.i64.wrap (n.tmod m) = n.tmod m := IntWalk.i64_in _ (by omega)
  by_cases c : n.tmod m < 0
  · have E := Lib.hid (tmod_neg n m hm c)
    go_enter Tryd.func26, Tryd.ntmps26
    go_wp2
    go_ret
    exact ⟨ret_int E.out, rfl⟩
  · have E := Lib.hid (tmod_pos n m hm (by omega))
    go_enter Tryd.func26, Tryd.ntmps26
    go_wp2
    go_ret
    exact ⟨ret_int E.out, rfl⟩
set_option maxHeartbeats 400000 in
theorem day_pick (n : Int) (w : World) : Calls Tryd.prog 33 #[.int .i64 n] w fun e w' => e = .returned (.int .i64 (n % 730485)) ∧ w = w' := by
  go_enter Tryd.func33, Tryd.ntmps33
  go_wp2_with (go_at_call 26; refine (pick_any _ _ _ (by omega) (by omega)).mono ?_; rintro e w' ⟨rfl, rfl⟩)
  go_ret
  exact ⟨rfl, rfl⟩
namespace Cal
/-- The next day's date. -/
theorem IsDate.next {n y m d : Int} (h : IsDate n y m d) (hn : n < 730484) :
    (d < dim (lp y) m ∧ IsDate (n + 1) y m (d + 1)) ∨ (d = dim (lp y) m ∧ m < 12 ∧ IsDate (n + 1) y (m + 1) 1) ∨ (d = dim (lp y) m ∧ m = 12 ∧ y < 4000 ∧ IsDate (n + 1) (y + 1) 1 1) := by
  have hr := h.rng
  obtain ⟨y1, y2, m1, m2, d1, d2, e⟩ := h
  by_cases c : d < dim (lp y) m
  · exact Or.inl ⟨c, y1, y2, m1, m2, by omega, by omega, by omega⟩
  · have s := ms_succ m (lp y)
    by_cases c2 : m < 12
    · have := dim_bd (m + 1) (lp y) (by omega) (by omega)
      exact Or.inr (Or.inl ⟨by omega, c2, y1, y2, by omega, by omega, by omega, by omega, by omega⟩)
    · obtain rfl : m = 12 := by omega
      have a := ms_13 (lp y)
      have b := ys_succ (y - 2001)
      rw [show 2001 + (y - 2001) = y by omega] at b
      have b' : ms (12 + 1) (lp y) = ms 13 (lp y) := rfl
      have hy : y < 4000 := by
        by_cases q : y = 4000
        · subst q; have : ys (4000 - 2001 + 1) = 730485 := ys_2000; omega
        · omega
      have := dim_bd 1 (lp (y + 1)) (by omega) (by omega)
      have z := ms_1 (lp (y + 1))
      exact Or.inr (Or.inr ⟨by omega, rfl, hy, by omega, by omega, by omega, by omega, by omega, by omega, by rw [show y + 1 - 2001 = y - 2001 + 1 by omega]; omega⟩)
theorem ok_last {n y m d : Int} (_h : IsDate n y m d) (hd : d = dim (lp y) m) : ok y m (d + 1) = false := by
  rw [← Bool.not_eq_true, ok_iff]; intro h'; have := h'.d2; omega
end Cal
end Go.Proofs.YtcnnfgigpjbcpaaDoor
