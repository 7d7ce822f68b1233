/- Chances of trials as numbers: terms, their sums, and how these grow. -/
import Derived.WalkKit
namespace Go.Proofs.Ytjfopggpohakkaa
namespace Bn
/-- The term of k of n: the number of subsets, times a to the k, times b to the rest. -/
def T (a b : Nat) : Nat → Nat → Nat
  | 0, 0 => 1
  | 0, _ + 1 => 0
  | n + 1, 0 => b * T a b n 0
  | n + 1, k + 1 => a * T a b n k + b * T a b n (k + 1)
/-- The sum of the first k terms. -/
def S (a b n : Nat) : Nat → Nat
  | 0 => 0
  | k + 1 => S a b n k + T a b n k
variable {a b n k : Nat}
theorem T_big (a b : Nat) : ∀ {n k : Nat}, n < k → T a b n k = 0 := by
  intro n
  induction n with
  | zero => intro k h; cases k with
    | zero => omega
    | succ k => rfl
  | succ n ih => intro k h; cases k with
    | zero => omega
    | succ k => show a * T a b n k + b * T a b n (k + 1) = 0; rw [ih (by omega), ih (by omega)]; simp
theorem T_zero (a b n : Nat) : T a b n 0 = b ^ n := by
  induction n with
  | zero => rfl
  | succ n ih => show b * T a b n 0 = _; rw [ih, Nat.pow_succ, Nat.mul_comm]
theorem T_top (a b n : Nat) : T a b n n = a ^ n := by
  induction n with
  | zero => rfl
  | succ n ih => show a * T a b n n + b * T a b n (n + 1) = _; rw [ih, T_big a b (by omega), Nat.pow_succ, Nat.mul_zero, Nat.add_zero, Nat.mul_comm]
/-- The next term out of the last one. -/
theorem ratio (a b n k : Nat) : (k + 1) * (b * T a b n (k + 1)) + k * (a * T a b n k) = n * (a * T a b n k) := by
  induction n generalizing k with
  | zero => cases k with
    | zero => simp [T]
    | succ k => simp [T]
  | succ n ih => cases k with
    | zero =>
      have i := ih 0
      simp only [T] at i ⊢
      grind
    | succ k =>
      have i := ih k
      have j := ih (k + 1)
      simp only [T] at i j ⊢
      grind
theorem ratio' (a b n k : Nat) (h : k ≤ n) : (n - k) * a * T a b n k = (k + 1) * b * T a b n (k + 1) := by
  obtain ⟨d, rfl⟩ : ∃ d, n = k + d := ⟨n - k, by omega⟩
  have := ratio a b (k + d) k
  rw [Nat.add_sub_cancel_left]
  grind
/-- What is left where a factor is 0. -/
theorem T_none (a n k : Nat) (h : k < n) : T a 0 n k = 0 := by
  induction n generalizing k with
  | zero => omega
  | succ n ih => cases k with
    | zero => simp [T]
    | succ k => simp only [T]; rw [ih k (by omega)]; simp
theorem T_sym (a b : Nat) : ∀ n k, k ≤ n → T a b n k = T b a n (n - k) := by
  intro n
  induction n with
  | zero => intro k h; obtain rfl : k = 0 := by omega
            rfl
  | succ n ih => intro k h; cases k with
    | zero => rw [T_zero, Nat.sub_zero, T_top]
    | succ k =>
      by_cases e : k = n
      · subst e; rw [T_top, Nat.sub_self, T_zero]
      · obtain ⟨m, hm⟩ : ∃ m, n - k = m + 1 := ⟨n - k - 1, by omega⟩
        rw [show n + 1 - (k + 1) = m + 1 by omega]
        show a * T a b n k + b * T a b n (k + 1) = b * T b a n m + a * T b a n (m + 1)
        rw [ih k (by omega), ih (k + 1) (by omega), hm, show n - (k + 1) = m by omega]
        omega
theorem S_rec (a b n k : Nat) : S a b (n + 1) (k + 1) = a * S a b n k + b * S a b n (k + 1) := by
  induction k with
  | zero => simp [S, T]
  | succ k ih =>
    show S a b (n + 1) (k + 1) + T a b (n + 1) (k + 1) = a * (S a b n k + T a b n k) + b * (S a b n (k + 1) + T a b n (k + 1))
    rw [ih]
    simp only [T]
    grind
theorem S_all (a b : Nat) : ∀ n, S a b n (n + 1) = (a + b) ^ n := by
  intro n
  induction n with
  | zero => simp [S, T]
  | succ n ih =>
    rw [S_rec, ih]
    have : S a b n (n + 1 + 1) = S a b n (n + 1) + T a b n (n + 1) := rfl
    rw [this, ih, T_big a b (by omega), Nat.pow_succ]
    grind
theorem S_le (a b n k : Nat) : S a b n k ≤ S a b n (k + 1) := Nat.le_add_right _ _
theorem S_mono (a b n : Nat) {k m : Nat} (h : k ≤ m) : S a b n k ≤ S a b n m := by
  induction h with
  | refl => exact Nat.le_refl _
  | step _ ih => exact Nat.le_trans ih (S_le _ _ _ _)
theorem S_far (a b : Nat) {n k : Nat} (h : n < k) : S a b n k = (a + b) ^ n := by
  obtain ⟨d, rfl⟩ : ∃ d, k = n + 1 + d := ⟨k - n - 1, by omega⟩
  induction d with
  | zero => exact S_all a b n
  | succ d ih => show S a b n (n + 1 + d) + T a b n (n + 1 + d) = _; rw [ih (by omega), T_big a b (by omega)]; rfl
theorem S_top (a b n k : Nat) : S a b n k ≤ (a + b) ^ n := by
  by_cases h : n < k
  · rw [S_far a b h]; exact Nat.le_refl _
  · rw [← S_all a b n]; exact S_mono a b n (by omega)
theorem T_le (a b n k : Nat) : T a b n k ≤ (a + b) ^ n := Nat.le_trans (Nat.le_add_left _ _) (S_top a b n (k + 1))
/-- The first terms, and those of the others, are all. -/
theorem S_two (a b : Nat) : ∀ n k, k ≤ n + 1 → S a b n k + S b a n (n + 1 - k) = (a + b) ^ n := by
  intro n k
  induction k with
  | zero => intro _; rw [Nat.sub_zero, S_all, Nat.add_comm b a]; simp [S]
  | succ k ih =>
    intro h
    have i := ih (by omega)
    obtain ⟨m, hm⟩ : ∃ m, n + 1 - k = m + 1 := ⟨n - k, by omega⟩
    rw [hm] at i
    rw [show n + 1 - (k + 1) = m by omega]
    have e : S b a n (m + 1) = S b a n m + T b a n m := rfl
    have f : S a b n (k + 1) = S a b n k + T a b n k := rfl
    have s := T_sym a b n k (by omega)
    rw [show n - k = m by omega] at s
    omega
/-- A greater a, as much smaller a b: fewer of the first terms. -/
theorem S_anti {a b c d : Nat} (h : a ≤ c) (e : a + b = c + d) : ∀ n k, S c d n k ≤ S a b n k := by
  intro n
  induction n with
  | zero => intro k; cases k with
    | zero => exact Nat.le_refl _
    | succ k => rw [S_far c d (by omega), S_far a b (by omega)]; simp
  | succ n ih => intro k; cases k with
    | zero => exact Nat.le_refl _
    | succ k =>
      rw [S_rec, S_rec]
      have i := ih k
      have j := ih (k + 1)
      have l := S_le a b n k
      obtain ⟨t, rfl⟩ : ∃ t, c = a + t := ⟨c - a, by omega⟩
      obtain rfl : b = t + d := by omega
      have m1 := Nat.mul_le_mul_left (a + t) i
      have m2 := Nat.mul_le_mul_left d j
      have m3 := Nat.mul_le_mul_left t l
      rw [Nat.add_mul] at m1 ⊢
      rw [Nat.add_mul] at m1
      rw [Nat.add_mul]
      omega
/-- One step of a changes the sum by no more than n parts. -/
theorem S_step (a d : Nat) : ∀ n k, (a + d + 1) * S a (d + 1) n k ≤ (a + d + 1) * S (a + 1) d n k + n * (a + d + 1) ^ n := by
  intro n
  induction n with
  | zero => intro k; cases k with
    | zero => simp [S]
    | succ k => rw [S_far (a + 1) d (by omega), S_far a (d + 1) (by omega)]; simp
  | succ n ih => intro k; cases k with
    | zero => simp [S]
    | succ k =>
      rw [S_rec, S_rec]
      have i := Nat.mul_le_mul_left a (ih k)
      have j := Nat.mul_le_mul_left d (ih (k + 1))
      have t := S_top a (d + 1) n (k + 1)
      obtain ⟨w, hw⟩ : ∃ w, w = a + d + 1 := ⟨_, rfl⟩
      rw [show a + (d + 1) = w by omega] at t
      rw [← hw] at i j ⊢
      have t2 := Nat.mul_le_mul_left w t
      have e : (n + 1) * w ^ (n + 1) = n * (a * w ^ n) + n * (d * w ^ n) + n * w ^ n + w * w ^ n := by
        rw [Nat.pow_succ]
        have : w ^ n * w = a * w ^ n + d * w ^ n + w ^ n := by rw [hw]; grind
        rw [this]
        have : w * w ^ n = a * w ^ n + d * w ^ n + w ^ n := by rw [hw]; grind
        rw [this]; grind
      rw [e]
      have u : w * S (a + 1) d n k ≥ 0 := Nat.zero_le _
      have f1 : w * (a * S a (d + 1) n k + (d + 1) * S a (d + 1) n (k + 1)) = a * (w * S a (d + 1) n k) + d * (w * S a (d + 1) n (k + 1)) + w * S a (d + 1) n (k + 1) := by grind
      have f2 : w * ((a + 1) * S (a + 1) d n k + d * S (a + 1) d n (k + 1)) = a * (w * S (a + 1) d n k) + w * S (a + 1) d n k + d * (w * S (a + 1) d n (k + 1)) := by grind
      have g1 : a * (w * S (a + 1) d n k + n * w ^ n) = a * (w * S (a + 1) d n k) + n * (a * w ^ n) := by grind
      have g2 : d * (w * S (a + 1) d n (k + 1) + n * w ^ n) = d * (w * S (a + 1) d n (k + 1)) + n * (d * w ^ n) := by grind
      rw [g1] at i
      rw [g2] at j
      rw [f1, f2]
      omega
/-- A common factor. -/
theorem T_scale (c a b : Nat) : ∀ n k, T (c * a) (c * b) n k = c ^ n * T a b n k := by
  intro n
  induction n with
  | zero => intro k; cases k <;> simp [T]
  | succ n ih => intro k; cases k with
    | zero => simp only [T]; rw [ih 0, Nat.pow_succ]; grind
    | succ k => simp only [T]; rw [ih k, ih (k + 1), Nat.pow_succ]; grind
theorem S_scale (c a b n k : Nat) : S (c * a) (c * b) n k = c ^ n * S a b n k := by
  induction k with
  | zero => simp [S]
  | succ k ih => simp only [S]; rw [ih, T_scale, Nat.mul_add]
end Bn
end Go.Proofs.Ytjfopggpohakkaa
