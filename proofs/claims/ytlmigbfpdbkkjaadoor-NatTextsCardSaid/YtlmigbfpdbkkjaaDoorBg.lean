/- Powers of two bases against each other. -/
import Derived.Test.YtlmigbfpdbkkjaaDoorLi
namespace Go.Proofs.YtlmigbfpdbkkjaaDoor
namespace Nt
theorem pow_485 {k : Nat} (hk : k = 5) : 2 ^ (97 * k) ≤ 10 ^ 146 := by
  have h1 : (2 : Nat) ^ 97 = 158456325028528675187087900672 := by decide
  rw [Nat.pow_mul, h1, hk]
  decide
theorem pow_273 {k : Nat} (hk : k = 3) : 2 ^ (91 * k) ≤ 10 ^ 83 := by
  have h1 : (2 : Nat) ^ 91 = 2475880078570760549798248448 := by decide
  rw [Nat.pow_mul, h1, hk]
  decide
/-- The greatest number has at most so many digits. -/
theorem pow_top {k m : Nat} (hk : k = 9865) (hm : m = 1024) : B ^ m ≤ 10 ^ k := by
  have e : B = 2 ^ 32 := by decide
  obtain ⟨x, hx⟩ : ∃ x, x = 5 := ⟨_, rfl⟩
  obtain ⟨y, hy⟩ : ∃ y, y = 3 := ⟨_, rfl⟩
  obtain ⟨z, hz⟩ : ∃ z, z = 67 := ⟨_, rfl⟩
  have e1 : 32 * m = 97 * x * z + 91 * y := by subst hx hy hz hm; rfl
  have e2 : k = 146 * z + 83 := by subst hz hk; rfl
  rw [e, ← Nat.pow_mul, e1, e2, Nat.pow_add, Nat.pow_add, Nat.pow_mul _ (97 * x), Nat.pow_mul _ 146]
  exact Nat.mul_le_mul (Nat.pow_le_pow_left (pow_485 hx) z) (pow_273 hy)
theorem top_le {k : Nat} (hk : k = 9865) : top ≤ 10 ^ k := by
  obtain ⟨m, hm⟩ : ∃ m, m = 1024 := ⟨_, rfl⟩
  rw [top_pow hm]
  exact pow_top hk hm
end Nt
end Go.Proofs.YtlmigbfpdbkkjaaDoor
