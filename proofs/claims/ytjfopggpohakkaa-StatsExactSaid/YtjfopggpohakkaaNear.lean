/- The observed share lies between both bounds, up to rounding. -/
import Derived.Test.YtjfopggpohakkaaLow
namespace Go.Proofs.Ytjfopggpohakkaa
namespace Bn
/-- The sum of the first terms, each out of the one before. -/
def run (n a b : Nat) : Nat → Nat → Nat → Nat → Nat
  | 0, _, _, acc => acc
  | m + 1, j, t, acc => run n a b m (j + 1) ((n - j) * a * t / ((j + 1) * b)) (acc + t)
theorem run_is (n a b : Nat) (hb : 0 < b) : ∀ m j, j + m ≤ n + 1 → run n a b m j (T a b n j) (S a b n j) = S a b n (j + m) := by
  intro m
  induction m with
  | zero => intro j _; rfl
  | succ m ih =>
    intro j h
    show run n a b m (j + 1) _ _ = _
    rw [ratio' a b n j (by omega), Nat.mul_div_cancel_left _ (Nat.mul_pos (by omega) hb)]
    have := ih (j + 1) (by omega)
    rw [show j + 1 + m = j + (m + 1) by omega] at this
    exact this
def okm (n k : Nat) : Bool := decide (n ^ n < 5 * run n (n - k) k (n + 1 - k) 0 (k ^ n) 0)
def all1 (f : Nat → Bool) : Nat → Bool
  | 0 => true
  | m + 1 => f m && all1 f m
theorem all1_at {f : Nat → Bool} : ∀ {m : Nat}, all1 f m = true → ∀ i, i < m → f i = true := by
  intro m
  induction m with
  | zero => intro _ i h; omega
  | succ m ih =>
    intro h i hi
    unfold all1 at h
    rw [Bool.and_eq_true] at h
    by_cases e : i = m
    · rw [e]; exact h.1
    · exact ih h.2 i (by omega)
theorem all_ok : all1 (fun n => all1 (fun k => okm (n + 1) (k + 1)) (n + 1)) 100 = true := by decide +kernel
theorem half {n k : Nat} (hn : n ≤ 100) (h1 : 1 ≤ k) (hk : k ≤ n) : n ^ n < 5 * S (n - k) k n (n + 1 - k) := by
  have a := all1_at all_ok (n - 1) (by omega)
  have b := all1_at a (k - 1) (by omega)
  rw [show n - 1 + 1 = n by omega, show k - 1 + 1 = k by omega] at b
  have c := of_decide_eq_true (show decide _ = true from b)
  have r := run_is n (n - k) k (by omega) (n + 1 - k) 0 (by omega)
  rw [T_zero, Nat.zero_add] at r
  rw [show S (n - k) k n 0 = 0 from rfl] at r
  rw [r] at c; exact c
/-- Below the observed share the upper chance exceeds every risk. -/
theorem ex_near {n k p r : Nat} (hn : n ≤ 100) (h0 : 0 < n) (hk : k ≤ n) (hp : p ≤ W) (hr : r ≤ 2000) (h : W * k ≤ p * n) : ex n r (Up n k p) = true := by
  by_cases k0 : k = 0
  · subst k0; rw [Up_all hp]; exact ex_whole (by unfold W; omega)
  · have m := half hn (by omega) hk
    have e1 : S (n * (W - p)) (n * p) n (n + 1 - k) = n ^ n * Up n k p := S_scale n (W - p) p n (n + 1 - k)
    have e2 : S (W * (n - k)) (W * k) n (n + 1 - k) = W ^ n * S (n - k) k n (n + 1 - k) := S_scale W (n - k) k n (n + 1 - k)
    have s1 : n * (W - p) + n * p = W * n := by rw [← Nat.mul_add, show W - p + p = W by omega, Nat.mul_comm]
    have s2 : W * (n - k) + W * k = W * n := by rw [← Nat.mul_add, show n - k + k = n by omega]
    have le : n * (W - p) ≤ W * (n - k) := by
      have : W * k ≤ n * p := by rw [Nat.mul_comm n p]; exact h
      omega
    have an := S_anti (a := n * (W - p)) (b := n * p) (c := W * (n - k)) (d := W * k) le (by omega) n (n + 1 - k)
    rw [e1, e2] at an
    have pn : 0 < n ^ n := Nat.pow_pos h0
    have m2 := Nat.mul_lt_mul_of_pos_left m (W_pos n)
    have m3 := Nat.mul_le_mul_left 5 an
    have m4 : n ^ n * W ^ n < n ^ n * (5 * Up n k p) := by
      have x1 : W ^ n * n ^ n = n ^ n * W ^ n := Nat.mul_comm _ _
      have x2 : W ^ n * (5 * S (n - k) k n (n + 1 - k)) = 5 * (W ^ n * S (n - k) k n (n + 1 - k)) := Nat.mul_left_comm _ _ _
      have x3 : n ^ n * (5 * Up n k p) = 5 * (n ^ n * Up n k p) := Nat.mul_left_comm _ _ _
      omega
    have m5 := Nat.lt_of_mul_lt_mul_left m4
    unfold ex
    refine decide_eq_true ?_
    have m6 := Nat.mul_le_mul_right (W ^ n) hr
    have : W * Up n k p = 2000 * (5 * Up n k p) := by show 10000 * _ = _; omega
    omega
theorem low_near {n k r : Nat} (hn : n ≤ 100) (h0 : 0 < n) (hk : k ≤ n) (hr : r ≤ 2000) : low n k r * n < W * k + n := by
  refine Nat.lt_of_not_le fun c => ?_
  have l := low_le n k r
  cases e : low n k r with
  | zero => rw [e, Nat.zero_mul] at c; omega
  | succ p =>
    rw [e, Nat.succ_mul] at c
    have := ex_near hn h0 hk (p := p) (by omega) hr (by omega)
    rw [low_no (n := n) (k := k) (r := r) (by omega)] at this; cases this
theorem high_near {n k r : Nat} (hn : n ≤ 100) (h0 : 0 < n) (hk : k ≤ n) (hr : r ≤ 2000) : W * k < high n k r * n + n := by
  have := low_near hn h0 (k := n - k) (by omega) hr
  have l := low_le n (n - k) r
  have e1 : high n k r * n + low n (n - k) r * n = W * n := by unfold high; rw [← Nat.add_mul, Nat.sub_add_cancel l]
  have e2 : W * (n - k) + W * k = W * n := by rw [← Nat.mul_add, show n - k + k = n by omega]
  omega
theorem high_yes {n k r : Nat} (hk : k ≤ n) (hr : r < W) : ex n r (Lo n k (high n k r)) = true := by
  have l := low_le n (n - k) r
  have h : high n k r ≤ W := Nat.sub_le _ _
  rw [Lo_Up hk h]
  exact low_yes (by omega) hr (by unfold high; omega) (by omega)
theorem high_no {n k r : Nat} (hk : k ≤ n) (h : high n k r < W) : ex n r (Lo n k (high n k r + 1)) = false := by
  rw [Lo_Up hk (by omega)]
  have l := low_le n (n - k) r
  exact low_no (by unfold high at *; omega)
end Bn
end Go.Proofs.Ytjfopggpohakkaa
