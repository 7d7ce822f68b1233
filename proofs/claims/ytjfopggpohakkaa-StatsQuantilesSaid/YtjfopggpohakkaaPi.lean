/- The kit's Pick: a number reduced to a range. -/
import Derived.Test.YtjfopggpohakkaaSl
namespace Go.Proofs.Ytjfopggpohakkaa
open Go.RowKit
theorem tmod_bd (n m : Int) (hm : 1 ≤ m) : -m < n.tmod m ∧ n.tmod m < m := by
  have e := Int.tmod_eq_emod (a := n) (b := m)
  have l := Int.emod_nonneg n (show m ≠ 0 by omega)
  have u := Int.emod_lt_of_pos n (show 0 < m by omega)
  by_cases c : 0 ≤ n ∨ m ∣ n
  · rw [if_pos c] at e; omega
  · rw [if_neg c] at e
    have : (m.natAbs : Int) = m := by omega
    rw [this] at e
    have : n % m ≠ 0 := fun x => c (Or.inr (Int.dvd_of_emod_eq_zero x))
    omega
theorem tmod_pos (n m : Int) (hm : 1 ≤ m) (h : 0 ≤ n.tmod m) : n.tmod m = n % m := by
  have e := Int.tmod_eq_emod (a := n) (b := m)
  have u := Int.emod_lt_of_pos n (show 0 < m by omega)
  by_cases c : 0 ≤ n ∨ m ∣ n
  · rw [if_pos c] at e; omega
  · rw [if_neg c] at e; have : (m.natAbs : Int) = m := by omega
    rw [this] at e; omega
theorem tmod_neg (n m : Int) (hm : 1 ≤ m) (h : n.tmod m < 0) : n.tmod m + m = n % m := by
  have e := Int.tmod_eq_emod (a := n) (b := m)
  have l := Int.emod_nonneg n (show m ≠ 0 by omega)
  by_cases c : 0 ≤ n ∨ m ∣ n
  · rw [if_pos c] at e; omega
  · rw [if_neg c] at e; have : (m.natAbs : Int) = m := by omega
    rw [this] at e; omega
set_option maxHeartbeats 800000 in
theorem pick_any (n m : Int) (w : World) (hm : 1 ≤ m) (hm2 : m ≤ 4611686018427387904) :
    Calls Try.prog 19 #[.int .i64 n, .int .i64 m] w fun e w' => e = .returned (.int .i64 (n % m)) ∧ w = w' := by
  have hb := tmod_bd n m hm
  obtain ⟨hb1, hb2⟩ := hb
  have hm0 : (m == 0) = false := by simp; omega
  have hw : IntKind.i64.wrap (n.tmod m) = n.tmod m := IntWalk.i64_in _ (by omega)
  by_cases c : n.tmod m < 0
  · have E := Lib.hid (tmod_neg n m hm c)
    go_enter Try.func19, Try.ntmps19
    go_wp2
    go_ret
    exact ⟨ret_int E.out, rfl⟩
  · have E := Lib.hid (tmod_pos n m hm (by omega))
    go_enter Try.func19, Try.ntmps19
    go_wp2
    go_ret
    exact ⟨ret_int E.out, rfl⟩
end Go.Proofs.Ytjfopggpohakkaa
