/- The estimate of a digit of a quotient, from the highest digits of both numbers. -/
import Derived.WalkKit
namespace Go.Proofs.Ytjfopggpohakkaa
namespace Kn
/-- The estimate is never too low. -/
theorem est_ge {P v1 v0 U u0 q : Nat} (hq : q * (v1 * P + v0) ≤ U * P + u0) (hu : u0 < P) (h1 : 0 < v1) : q ≤ U / v1 := by
  refine (Nat.le_div_iff_mul_le h1).2 (Nat.le_of_not_lt fun hc => ?_)
  have a1 := Nat.mul_le_mul_right P (show U + 1 ≤ q * v1 from hc)
  rw [Nat.add_mul, Nat.one_mul] at a1
  rw [Nat.mul_add, ← Nat.mul_assoc] at hq
  omega
/-- With a divisor whose highest digit is at least half of the base the estimate is too high by two at most. -/
theorem est_le {b P v1 v0 U u0 q x : Nat} (hx : x * v1 ≤ U) (hb : x ≤ b) (h2 : b ≤ 2 * v1) (hv : v0 < P)
    (hlt : U * P + u0 < (q + 1) * (v1 * P + v0)) : x ≤ q + 2 := by
  refine Nat.le_of_not_lt fun hc => ?_
  obtain ⟨y, rfl⟩ : ∃ y, x = y + 2 := ⟨x - 2, by omega⟩
  have a1 := Nat.mul_le_mul_right (v1 * P + v0) (show q + 1 ≤ y by omega)
  have a2 := Nat.mul_le_mul_right P hx
  have a3 : y * v0 ≤ 2 * v1 * v0 := Nat.mul_le_mul_right v0 (by omega)
  have a4 : 2 * v1 * v0 ≤ 2 * v1 * P := Nat.mul_le_mul_left (2 * v1) (by omega)
  rw [Nat.mul_add y, ← Nat.mul_assoc y] at a1
  rw [Nat.add_mul y 2, Nat.add_mul (y * v1)] at a2
  omega
/-- What the test with the next digits strikes out is too high. -/
theorem test_gt {b P v1 v2 v0 U u2 u0 x r : Nat} (hU : x * v1 + r = U) (ht : b * r + u2 < x * v2) (hu : u0 < P) :
    (U * b + u2) * P + u0 < x * ((v1 * b + v2) * P + v0) := by
  have e : U * b + u2 + 1 ≤ x * (v1 * b + v2) := by
    rw [← hU, Nat.add_mul, Nat.mul_add, Nat.mul_assoc, Nat.mul_comm r b]; omega
  have a1 := Nat.mul_le_mul_right P e
  rw [Nat.add_mul, Nat.one_mul] at a1
  rw [Nat.mul_add, ← Nat.mul_assoc]
  omega
/-- What passes the test is too high by one at most. -/
theorem test_le {b P v1 v2 v0 U u2 u0 q x r : Nat} (hU : x * v1 + r = U) (ht : x * v2 ≤ b * r + u2) (hb : x ≤ b) (h1 : 0 < v1) (hv : v0 < P)
    (hlt : (U * b + u2) * P + u0 < (q + 1) * ((v1 * b + v2) * P + v0)) : x ≤ q + 1 := by
  refine Nat.le_of_not_lt fun hc => ?_
  obtain ⟨y, rfl⟩ : ∃ y, x = y + 1 := ⟨x - 1, by omega⟩
  have a1 := Nat.mul_le_mul_right ((v1 * b + v2) * P + v0) (show q + 1 ≤ y by omega)
  have e : (y + 1) * (v1 * b + v2) ≤ U * b + u2 := by
    rw [← hU, Nat.add_mul ((y + 1) * v1), Nat.mul_add, Nat.mul_assoc, Nat.mul_comm r b]; omega
  have a2 := Nat.mul_le_mul_right P e
  have a3 : y * v0 ≤ b * v0 := Nat.mul_le_mul_right v0 (by omega)
  have a4 : b * v0 ≤ b * P := Nat.mul_le_mul_left b (by omega)
  have a5 : b * P ≤ (v1 * b + v2) * P := Nat.mul_le_mul_right P (by have := Nat.mul_le_mul_right b (show 1 ≤ v1 from h1); omega)
  rw [Nat.mul_add y, ← Nat.mul_assoc y] at a1
  rw [Nat.add_mul y 1, Nat.one_mul, Nat.add_mul (y * (v1 * b + v2))] at a2
  omega
end Kn
end Go.Proofs.Ytjfopggpohakkaa
