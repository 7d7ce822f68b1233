/- The contracts of stats at arguments in their ranges. -/
import Derived.Test.YtjfopggpohakkaaSr
namespace Go.Proofs.Ytjfopggpohakkaa
open Go.RowKit

theorem sh_yes {p : Nat} (hp : p ≤ 10000) : shB (p : Int) = true := by unfold shB; exact decide_eq_true ⟨by omega, by omega⟩
theorem rk_yes {p : Nat} (h1 : 1 ≤ p) (hp : p ≤ 2000) : rkB (p : Int) = true := by unfold rkB; exact decide_eq_true ⟨by omega, by omega⟩
theorem choose_ok (n k : Nat) (w : World) (hn : n ≤ 500) (hk : k ≤ n) : Calls Try.prog 32 #[.int .i64 n, .int .i64 k] w (NumE (Bn.T 1 1 n k) 0 w) := by
  have h := chk_ok (b := true) hk hn rfl
  have := choose_any n k w
  rw [show valC n k = Bn.T 1 1 n k by unfold valC; rw [if_pos h]; rfl, h] at this; exact this
theorem chance_ok (n k p : Nat) (w : World) (hn : n ≤ 500) (hk : k ≤ n) (hp : p ≤ 10000) : Calls Try.prog 22 #[.int .i64 n, .int .i64 k, .int .i64 p] w (NumE (Bn.T p (10000 - p) n k) 0 w) := by
  have h := chk_ok hk hn (sh_yes hp)
  have := chance_any n k p w
  rw [show valX n k p = Bn.T p (10000 - p) n k by unfold valX; rw [if_pos h]; rfl, h] at this; exact this
theorem upper_ok (n k p : Nat) (w : World) (hn : n ≤ 500) (hk : k ≤ n) (hp : p ≤ 10000) : Calls Try.prog 28 #[.int .i64 n, .int .i64 k, .int .i64 p] w (NumE (Bn.Up n k p) 0 w) := by
  have h := chk_ok hk hn (sh_yes hp)
  have := upper_any n k p w
  rw [show valU n k p = Bn.Up n k p by unfold valU; rw [if_pos h]; rfl, h] at this; exact this
theorem lower_ok (n k p : Nat) (w : World) (hn : n ≤ 500) (hk : k ≤ n) (hp : p ≤ 10000) : Calls Try.prog 29 #[.int .i64 n, .int .i64 k, .int .i64 p] w (NumE (Bn.Lo n k p) 0 w) := by
  have h := chk_ok hk hn (sh_yes hp)
  have := lower_any n k p w
  rw [show valL n k p = Bn.Lo n k p by unfold valL; rw [if_pos h]; rfl, h] at this; exact this
theorem least_ok (n k r : Nat) (w : World) (hn : n ≤ 500) (hk : k ≤ n) (h1 : 1 ≤ r) (hr : r ≤ 2000) : Calls Try.prog 23 #[.int .i64 n, .int .i64 k, .int .i64 r] w fun e w' => e = .returned (.tuple #[.int .i64 (Bn.low n k r : Nat), .int .i64 0]) ∧ Below w.heap.size w w' := by
  have h := chk_ok hk hn (rk_yes h1 hr)
  have := least_any n k r w
  rw [show valB n k r = Bn.low n k r by unfold valB; rw [if_pos h]; rfl, h] at this; exact this
theorem greatest_ok (n k r : Nat) (w : World) (hn : n ≤ 500) (hk : k ≤ n) (h1 : 1 ≤ r) (hr : r ≤ 2000) : Calls Try.prog 24 #[.int .i64 n, .int .i64 k, .int .i64 r] w fun e w' => e = .returned (.tuple #[.int .i64 (Bn.high n k r : Nat), .int .i64 0]) ∧ Below w.heap.size w w' := by
  have h := chk_ok hk hn (rk_yes h1 hr)
  have := greatest_any n k r w
  rw [show valG n k r = Bn.high n k r by unfold valG; rw [if_pos h]; rfl, h] at this; exact this
theorem high_le (n k r : Nat) : Bn.high n k r ≤ 10000 := by unfold Bn.high Bn.W; omega
theorem low_le4 (n k r : Nat) : Bn.low n k r ≤ 10000 := Bn.low_le n k r
theorem Up_top {n k p y : Nat} (hn : n ≤ 500) (hp : p ≤ 10000) (hy : y ≤ 100000000) : y * Bn.Up n k p < Nt.top := S_top (n := n) (k := n + 1 - k) (a := 10000 - p) (b := p) hn (by omega) hy
theorem Lo_top {n k p y : Nat} (hn : n ≤ 500) (hp : p ≤ 10000) (hy : y ≤ 100000000) : y * Bn.Lo n k p < Nt.top := S_top (n := n) (k := k + 1) (a := p) (b := 10000 - p) hn (by omega) hy
/-- A number picked, as a natural one. -/
theorem picked (n m : Int) (h : 0 < m) : ∃ k : Nat, n % m = (k : Int) ∧ (k : Int) < m := by
  have l1 := Int.emod_nonneg n (show m ≠ 0 by omega)
  have l2 := Int.emod_lt_of_pos n h
  exact ⟨(n % m).toNat, by omega, by omega⟩
end Go.Proofs.Ytjfopggpohakkaa
