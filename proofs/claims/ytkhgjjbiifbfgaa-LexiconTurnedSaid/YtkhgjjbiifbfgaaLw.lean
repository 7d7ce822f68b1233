/- Within. -/
import Derived.Test.YtkhgjjbiifbfgaaEo
namespace Go.Proofs.Ytkhgjjbiifbfgaa
open Go.RowKit Go.Shelf
set_option maxRecDepth 100000 in
set_option maxHeartbeats 1600000 in
theorem within_ok (c : Ed.Cs) (hc : Ed.Rc c) (xs ys : Ed.Bs) (hx : xs.length ≤ 60) (hy : ys.length ≤ 60) (most : Int) (w : World) : Calls Try.prog 37 #[sb xs, sb ys, cv c, .int .i64 most] w fun e w' => e = .returned (.tuple #[.int .i64 (if Ed.ds c xs ys ≤ most then Ed.ds c xs ys else 0), .bool (decide (Ed.ds c xs ys ≤ most)), .int .i64 0]) ∧ Below w.heap.size w w' := by
  have DI := Lib.hid (distance_ok c hc xs ys hx hy)
  obtain ⟨d, hd⟩ : ∃ d, d = Ed.ds c xs ys := ⟨_, rfl⟩
  rw [← hd] at DI ⊢
  clear hd hc hx hy
  by_cases h : d ≤ most
  · rw [if_pos h, decide_eq_true h]
    go_enter Try.func37, Try.ntmps37
    go_wp2_with (go_at_call 13; (with_reducible refine (DI.out _).mono ?_); rintro e w1 ⟨rfl, b1⟩)
    go_ret3
    exact ⟨rfl, ((Below.refl _ _).alloc (Nat.le_refl _) _).trans (b1.mono (by simp))⟩
  · rw [if_neg h, decide_eq_false h]
    go_enter Try.func37, Try.ntmps37
    go_wp2_with (go_at_call 13; (with_reducible refine (DI.out _).mono ?_); rintro e w1 ⟨rfl, b1⟩)
    go_ret3
    exact ⟨rfl, ((Below.refl _ _).alloc (Nat.le_refl _) _).trans (b1.mono (by simp))⟩
set_option maxRecDepth 100000 in
set_option maxHeartbeats 1600000 in
theorem within_no (c : Ed.Cs) (xs ys : Ed.Bs) (E : Int) (h : Ed.ckv c xs ys = E) (h0 : E ≠ 0) (most : Int) (w : World) : Calls Try.prog 37 #[sb xs, sb ys, cv c, .int .i64 most] w fun e w' => e = .returned (.tuple #[.int .i64 0, .bool false, .int .i64 E]) ∧ Below w.heap.size w w' := by
  have DI := Lib.hid (distance_no c xs ys E h h0)
  have e0 : (E == 0) = false := beq_eq_false_iff_ne.2 h0
  have e1 : (E != 0) = true := by rw [bne, e0]; rfl
  clear h
  go_enter Try.func37, Try.ntmps37
  go_wp2_with (go_at_call 13; (with_reducible refine (DI.out _).mono ?_); rintro e w1 ⟨rfl, b1⟩)
  go_ret3
  exact ⟨rfl, ((Below.refl _ _).alloc (Nat.le_refl _) _).trans (b1.mono (by simp))⟩
end Go.Proofs.Ytkhgjjbiifbfgaa
