/- What the statements share: a number picked, an amount. -/
import Derived.Test.YthdmgnlemmpjkaaDoorAw
namespace Go.Proofs.YthdmgnlemmpjkaaDoor
open Go.RowKit

theorem tmod_bd (n m : Int) (hm : 1 ≤ m) : -m < n.tmod m ∧ n.tmod m < m := by
  have e := Int.tmod_eq_emod (a := n) (b := m)
  have l := Int.emod_nonneg n (show m ≠ 0 by omega)
  have u := Int.emod_lt_of_pos n (show 0 < m by omega)
  by_cases c : 0 ≤ n ∨ m ∣ n
  · rw [if_pos c] at e; omega
  · rw [if_neg c] at e
    have : (m.natAbs : Int) = m := by omega
    rw [this] at e
    have : n % m ≠ 0 := fun x => c (Or.inr (Int.dvd_of_emod_eq_zero x))
    omega
theorem tmod_pos (n m : Int) (hm : 1 ≤ m) (h : 0 ≤ n.tmod m) : n.tmod m = n % m := by
  have e := Int.tmod_eq_emod (a := n) (b := m)
  have u := Int.emod_lt_of_pos n (show 0 < m by omega)
  by_cases c : 0 ≤ n ∨ m ∣ n
  · rw [if_pos c] at e; omega
  · rw [if_neg c] at e; have : (m.natAbs : Int) = m := by omega
    rw [this] at e; omega
theorem tmod_neg (n m : Int) (hm : 1 ≤ m) (h : n.tmod m < 0) : n.tmod m + m = n % m := by
  have e := Int.tmod_eq_emod (a := n) (b := m)
  have l := Int.emod_nonneg n (show m ≠ 0 by omega)
  by_cases c : 0 ≤ n ∨ m ∣ n
  · rw [if_pos c] at e; omega
  · rw [if_neg c] at e; have : (m.natAbs : Int) = m := by omega
    rw [this] at e; omega
set_option maxHeartbeats 800000 in
theorem pick_any (n m : Int) (w : World) (hm : 1 ≤ m) (hm2 : m ≤ 4611686018427387904) :
    Calls Tryd.prog 17 #[.int .i64 n, .int .i64 m] w fun e w' => e = .returned (.int .i64 (n % m)) ∧ w = w' := by
  have hb := tmod_bd n m hm
  obtain ⟨hb1, hb2⟩ := hb
  have hm0 : (m == 0) = false := by simp; omega
  have hw : IntKind.i64.wrap (n.tmod m) = n.tmod m := IntWalk.i64_in _ (by omega)
  by_cases c : n.tmod m < 0
  · have E := Lib.hid (tmod_neg n m hm c)
    go_enter Tryd.func17, Tryd.ntmps17
    go_wp2
    go_ret
    exact ⟨ret_int E.out, rfl⟩
  · have E := Lib.hid (tmod_pos n m hm (by omega))
    go_enter Tryd.func17, Tryd.ntmps17
    go_wp2
    go_ret
    exact ⟨ret_int E.out, rfl⟩
set_option maxHeartbeats 400000 in
theorem amount_any (n : Int) (w : World) : Calls Tryd.prog 13 #[.int .i64 n] w fun e w' => e = .returned (.int .i64 (n % 2000000000000001 - 1000000000000000)) ∧ w = w' := by
  go_enter Tryd.func13, Tryd.ntmps13
  go_wp2_with (go_at_call 17; refine (pick_any _ _ _ (by omega) (by omega)).mono ?_; rintro e w' ⟨rfl, rfl⟩)
  go_ret
  exact ⟨rfl, rfl⟩
theorem sl2 (w : World) (x y : Int) (t : TypeId) (c : Nat) : Sl (w.alloc (.cells #[.int .i64 x, .int .i64 y] t)) (.slice (some ⟨w.heap.size, 0, none⟩) 2 c) [x, y] :=
  ⟨_, c, rfl, Or.inr ⟨_, 0, rfl, fun j hj => by
    match j, hj with
    | 0, _ => exact cell_at _ _ _ 0 _ _ rfl rfl
    | 1, _ => exact cell_at _ _ _ 1 _ _ rfl rfl⟩⟩
theorem sl1 (w : World) (x : Int) (t : TypeId) (c : Nat) : Sl (w.alloc (.cells #[.int .i64 x] t)) (.slice (some ⟨w.heap.size, 0, none⟩) 1 c) [x] :=
  ⟨_, c, rfl, Or.inr ⟨_, 0, rfl, fun j hj => by
    match j, hj with
    | 0, _ => exact cell_at _ _ _ 0 _ _ rfl rfl⟩⟩
theorem sum_s (v : Value) (xs : List Int) (a e : Int) (w : World) (h : Sl w v xs) (ha : Mny.sumV xs = a) (he : Mny.sumE xs = e) :
    Calls Tryd.prog 16 #[v] w fun r w' => r = .returned (.tuple #[.int .i64 a, .int .i64 e]) ∧ w = w' := by
  subst ha he; exact sum_any v xs w h
set_option maxHeartbeats 800000 in
theorem add_s (x y a e : Int) (w : World) (ha : Mny.sumV [x, y] = a) (he : Mny.sumE [x, y] = e) :
    Calls Tryd.prog 20 #[.int .i64 x, .int .i64 y] w fun r w' => r = .returned (.tuple #[.int .i64 a, .int .i64 e]) ∧ Below w.heap.size w w' := by
  have S := Lib.hid (fun W => sum_s _ [x, y] a e _ (sl2 W x y 3 2) ha he)
  clear ha he
  go_enter Tryd.func20, Tryd.ntmps20
  go_wp2_with (go_at_call 16; refine (S.out _).mono ?_; rintro r w' ⟨rfl, rfl⟩)
  go_ret2
  exact ⟨rfl, by go_grown⟩
end Go.Proofs.YthdmgnlemmpjkaaDoor
