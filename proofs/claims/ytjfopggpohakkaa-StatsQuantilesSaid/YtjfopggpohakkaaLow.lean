/- Upper and lower chances of a share, and the bounds of a share, as numbers. -/
import Derived.Test.YtjfopggpohakkaaBin
namespace Go.Proofs.Ytjfopggpohakkaa
namespace Bn
/-- The least number below N from which on f holds; N, if there is none. -/
def least (f : Nat → Bool) : Nat → Nat
  | 0 => 0
  | N + 1 => if f N then least f N else N + 1
theorem least_le (f : Nat → Bool) : ∀ N, least f N ≤ N := by
  intro N
  induction N with
  | zero => exact Nat.le_refl _
  | succ N ih => unfold least; split
                 · omega
                 · exact Nat.le_refl _
theorem least_yes {f : Nat → Bool} : ∀ {N p : Nat}, least f N ≤ p → p < N → f p = true := by
  intro N
  induction N with
  | zero => intro p _ h; omega
  | succ N ih =>
    intro p h hp
    unfold least at h
    split at h
    · rename_i hf
      by_cases e : p = N
      · rw [e]; exact hf
      · exact ih h (by omega)
    · omega
theorem least_no {f : Nat → Bool} : ∀ {N p : Nat}, (∀ a b, a ≤ b → b < N → f a = true → f b = true) → p < least f N → f p = false := by
  intro N
  induction N with
  | zero => intro p _ h; unfold least at h; omega
  | succ N ih =>
    intro p m h
    unfold least at h
    split at h
    · exact ih (fun a b hab hb => m a b hab (by omega)) h
    · rename_i hf
      cases e : f p with
      | false => rfl
      | true => exact absurd (m p N (by omega) (by omega) e) hf
theorem least_is {f : Nat → Bool} {N r : Nat} (h : r ≤ N) (yes : ∀ p, r ≤ p → p < N → f p = true) (no : ∀ p, p < r → f p = false) : least f N = r := by
  induction N generalizing r with
  | zero => unfold least; omega
  | succ N ih =>
    unfold least
    by_cases e : r = N + 1
    · subst e; rw [no N (by omega)]; rfl
    · rw [yes N (by omega) (by omega), if_pos rfl]
      exact ih (by omega) (fun p h1 h2 => yes p h1 (by omega)) no
def W : Nat := 10000
/-- The upper chance of k, and the lower one. -/
def Up (n k p : Nat) : Nat := S (W - p) p n (n + 1 - k)
def Lo (n k p : Nat) : Nat := S p (W - p) n (k + 1)
/-- Whether a chance exceeds a risk. -/
def ex (n r c : Nat) : Bool := decide (r * W ^ n < W * c)
def low (n k r : Nat) : Nat := least (fun p => ex n r (Up n k p)) W
def high (n k r : Nat) : Nat := W - low n (n - k) r
theorem Up_Lo {n k p : Nat} (hk : k ≤ n) (hp : p ≤ W) : Up n k p = Lo n (n - k) (W - p) := by
  unfold Up Lo
  rw [show W - (W - p) = p by omega, show n + 1 - k = n - k + 1 by omega]
theorem Lo_Up {n k p : Nat} (hk : k ≤ n) (hp : p ≤ W) : Lo n k p = Up n (n - k) (W - p) := by
  unfold Up Lo
  rw [show W - (W - p) = p by omega, show n + 1 - (n - k) = k + 1 by omega]
theorem sum_W {p : Nat} (hp : p ≤ W) : W - p + p = W := by omega
theorem sum_W' {p : Nat} (hp : p ≤ W) : p + (W - p) = W := by omega
theorem Up_le {n k p : Nat} (hp : p ≤ W) : Up n k p ≤ W ^ n := by
  have := S_top (W - p) p n (n + 1 - k)
  rw [sum_W hp] at this; exact this
theorem Lo_le {n k p : Nat} (hp : p ≤ W) : Lo n k p ≤ W ^ n := by
  have := S_top p (W - p) n (k + 1)
  rw [sum_W' hp] at this; exact this
theorem Up_mono (n k : Nat) {p q : Nat} (h : p ≤ q) (hq : q ≤ W) : Up n k p ≤ Up n k q := by
  unfold Up
  exact S_anti (a := W - q) (b := q) (c := W - p) (d := p) (by omega) (by omega) n _
theorem Up_anti (n p : Nat) {k m : Nat} (h : k ≤ m) : Up n m p ≤ Up n k p := S_mono _ _ _ (by omega)
theorem Up_all {n p : Nat} (hp : p ≤ W) : Up n 0 p = W ^ n := by
  unfold Up
  rw [S_far (W - p) p (by omega), sum_W hp]
theorem Up_whole {n k : Nat} (hk : k ≤ n) : Up n k W = W ^ n := by
  have l : Up n k W ≤ W ^ n := Up_le (Nat.le_refl _)
  have g : S (W - W) W n 1 ≤ Up n k W := S_mono _ _ _ (by omega)
  have e : S (W - W) W n 1 = W ^ n := by
    show 0 + T (W - W) W n 0 = _
    rw [T_zero, Nat.zero_add]
  omega
theorem Up_step (n k p : Nat) (hk : k ≤ n) : Up n k p = Up n (k + 1) p + T p (W - p) n k := by
  unfold Up
  obtain ⟨m, hm⟩ : ∃ m, n - k = m := ⟨_, rfl⟩
  rw [show n + 1 - k = m + 1 by omega, show n + 1 - (k + 1) = m by omega]
  show S _ _ _ m + T (W - p) p n m = _
  rw [T_sym p (W - p) n k hk, hm]
theorem Up_last (n p : Nat) : Up n (n + 1) p = 0 := by unfold Up; rw [Nat.sub_self]; rfl
/-- The upper chance of k, and the first k chances, are all. -/
theorem Up_S {n k p : Nat} (hk : k ≤ n + 1) (hp : p ≤ W) : Up n k p + S p (W - p) n k = W ^ n := by
  have := S_two p (W - p) n k hk
  rw [sum_W' hp] at this
  unfold Up
  omega
theorem W_pos (n : Nat) : 0 < W ^ n := Nat.pow_pos (by decide)
theorem ex_whole {n r : Nat} (hr : r < W) : ex n r (W ^ n) = true := by
  unfold ex
  exact decide_eq_true (Nat.mul_lt_mul_of_pos_right hr (W_pos n))
theorem ex_mono {n r c d : Nat} (h : c ≤ d) (e : ex n r c = true) : ex n r d = true := by
  unfold ex at e ⊢
  have := of_decide_eq_true e
  have := Nat.mul_le_mul_left W h
  exact decide_eq_true (by omega)
theorem ex_risk {n r s c : Nat} (h : r ≤ s) (e : ex n s c = true) : ex n r c = true := by
  unfold ex at e ⊢
  have := of_decide_eq_true e
  have := Nat.mul_le_mul_right (W ^ n) h
  exact decide_eq_true (by omega)
theorem up_mono (n k r : Nat) : ∀ a b, a ≤ b → b < W → ex n r (Up n k a) = true → ex n r (Up n k b) = true :=
  fun _ _ h hb e => ex_mono (Up_mono n k h (by omega)) e
theorem low_le (n k r : Nat) : low n k r ≤ W := least_le _ _
theorem low_no {n k r p : Nat} (h : p < low n k r) : ex n r (Up n k p) = false := least_no (f := fun p => ex n r (Up n k p)) (up_mono n k r) h
theorem low_yes {n k r p : Nat} (hk : k ≤ n) (hr : r < W) (h : low n k r ≤ p) (hp : p ≤ W) : ex n r (Up n k p) = true := by
  by_cases e : p = W
  · rw [e, Up_whole hk]; exact ex_whole hr
  · exact least_yes (f := fun p => ex n r (Up n k p)) h (by omega)
theorem low_iff {n k r p : Nat} (hk : k ≤ n) (hr : r < W) (hp : p ≤ W) : p < low n k r ↔ ex n r (Up n k p) = false := by
  constructor
  · exact low_no
  · intro h
    refine Nat.lt_of_not_le fun c => ?_
    rw [low_yes hk hr c hp] at h; cases h
theorem low_risk {n k r s : Nat} (hk : k ≤ n) (h : r ≤ s) (hs : s < W) : low n k r ≤ low n k s := by
  refine Nat.le_of_not_lt fun c => ?_
  have a := low_no c
  rw [ex_risk h (low_yes hk hs (Nat.le_refl _) (low_le _ _ _))] at a; cases a
theorem low_more {n k r : Nat} (hk : k + 1 ≤ n) (hr : r < W) : low n k r ≤ low n (k + 1) r := by
  refine Nat.le_of_not_lt fun c => ?_
  have a := low_no c
  rw [ex_mono (Up_anti n _ (Nat.le_succ k)) (low_yes hk hr (Nat.le_refl _) (low_le _ _ _))] at a; cases a
/-- The lower bound is not above the upper one. -/
theorem low_high {n k r : Nat} (hk : k ≤ n) (hn : n + 2 * r < W) : low n k r ≤ high n k r := by
  unfold high
  refine Nat.le_of_not_lt fun c => ?_
  have l1 := low_le n k r
  have l2 := low_le n (n - k) r
  obtain ⟨p, hp⟩ : ∃ p, low n k r = p + 1 := ⟨low n k r - 1, by omega⟩
  have a := low_no (n := n) (k := k) (r := r) (p := p) (by omega)
  obtain ⟨d, hd⟩ : ∃ d, W = p + d + 1 := ⟨W - p - 1, by omega⟩
  have b := low_no (n := n) (k := n - k) (r := r) (p := d) (by omega)
  have a1 := of_decide_eq_false (show decide (r * W ^ n < W * Up n k p) = false from a)
  have b1 := of_decide_eq_false (show decide (r * W ^ n < W * Up n (n - k) d) = false from b)
  have u : Up n (n - k) d = S (p + 1) d n (k + 1) := by
    unfold Up
    rw [show W - d = p + 1 by omega, show n + 1 - (n - k) = k + 1 by omega]
  have s := S_step p d n (k + 1)
  rw [← hd] at s
  have t := Up_S (n := n) (k := k) (p := p) (by omega) (by omega)
  rw [show W - p = d + 1 by omega] at t
  have m := S_le p (d + 1) n k
  rw [u] at b1
  have t2 : W * W ^ n = W * Up n k p + W * S p (d + 1) n k := by rw [← t, Nat.mul_add]
  have m2 := Nat.mul_le_mul_left W m
  have z : (n + 2 * r) * W ^ n < W * W ^ n := Nat.mul_lt_mul_of_pos_right hn (W_pos n)
  rw [Nat.add_mul, Nat.mul_assoc] at z
  omega
/-- The bounds of failures. -/
theorem low_turn {n k r : Nat} (hk : k ≤ n) : low n k r = W - high n (n - k) r := by
  unfold high
  have := low_le n k r
  rw [show n - (n - k) = k by omega]; omega
/-- The sum of the terms with a property. -/
def A (a b n : Nat) (f : Nat → Bool) : Nat → Nat
  | 0 => 0
  | k + 1 => if f k then A a b n f k + T a b n k else A a b n f k
theorem A_le (a b n : Nat) (f : Nat → Bool) : ∀ k, A a b n f k ≤ S a b n k := by
  intro k
  induction k with
  | zero => exact Nat.le_refl _
  | succ k ih => unfold A S; split <;> omega
theorem A_up {a b n : Nat} {f : Nat → Bool} (m : ∀ i, i < n → f i = true → f (i + 1) = true) : ∀ k, k ≤ n + 1 → (A a b n f k = 0 ∧ ∀ i, i < k → f i = false) ∨ ∃ j, j < k ∧ f j = true ∧ (∀ i, j ≤ i → i < k → f i = true) ∧ A a b n f k + S a b n j = S a b n k := by
  intro k
  induction k with
  | zero => exact fun _ => .inl ⟨rfl, fun i h => by omega⟩
  | succ k ih =>
    intro h
    rcases ih (by omega) with ⟨e, no⟩ | ⟨j, hj, hf, all, e⟩
    · cases c : f k with
      | false => left; refine ⟨by unfold A; rw [c]; exact e, fun i hi => ?_⟩
                 by_cases x : i = k
                 · rw [x]; exact c
                 · exact no i (by omega)
      | true => right; refine ⟨k, by omega, c, fun i h1 h2 => by rw [show i = k by omega]; exact c, ?_⟩
                unfold A; rw [c, if_pos rfl, e]; show _ = S a b n k + T a b n k; omega
    · have c : f k = true := by
        by_cases x : k = 0
        · omega
        · have := m (k - 1) (by omega) (all (k - 1) (by omega) (by omega))
          rw [show k - 1 + 1 = k by omega] at this; exact this
      right
      refine ⟨j, by omega, hf, fun i h1 h2 => ?_, ?_⟩
      · by_cases x : i = k
        · rw [x]; exact c
        · exact all i h1 (by omega)
      · unfold A; rw [c, if_pos rfl]; show _ = S a b n k + T a b n k; omega
theorem A_down {a b n : Nat} {f : Nat → Bool} (m : ∀ i, i < n → f (i + 1) = true → f i = true) : ∀ k, k ≤ n + 1 → ∃ j, j ≤ k ∧ (∀ i, i < j → f i = true) ∧ (∀ i, j ≤ i → i < k → f i = false) ∧ A a b n f k = S a b n j := by
  intro k
  induction k with
  | zero => exact fun _ => ⟨0, Nat.le_refl _, fun i h => by omega, fun i _ h => by omega, rfl⟩
  | succ k ih =>
    intro h
    obtain ⟨j, hj, yes, no, e⟩ := ih (by omega)
    cases c : f k with
    | false =>
      refine ⟨j, by omega, yes, fun i h1 h2 => ?_, by unfold A; rw [c]; exact e⟩
      by_cases x : i = k
      · rw [x]; exact c
      · exact no i h1 (by omega)
    | true =>
      have : j = k := by
        refine Nat.le_antisymm hj (Nat.le_of_not_lt fun x => ?_)
        have := m (k - 1) (by omega) (by rw [show k - 1 + 1 = k by omega]; exact c)
        rw [no (k - 1) (by omega) (by omega)] at this; cases this
      subst this
      refine ⟨j + 1, Nat.le_refl _, fun i h1 => ?_, fun i h1 h2 => by omega, by unfold A; rw [c, if_pos rfl, e]; rfl⟩
      by_cases x : i = j
      · rw [x]; exact c
      · exact yes i (by omega)
/-- Whatever the share is: the chance of all whose lower bound is greater does not exceed the risk. -/
theorem above {n p r : Nat} (hp : p ≤ W) (hr : r < W) : ex n r (A p (W - p) n (fun k => decide (p < low n k r)) (n + 1)) = false := by
  have m : ∀ i, i < n → decide (p < low n i r) = true → decide (p < low n (i + 1) r) = true := by
    intro i hi h
    have := of_decide_eq_true h
    have := low_more (n := n) (k := i) (r := r) hi hr
    exact decide_eq_true (by omega)
  rcases A_up (a := p) (b := W - p) (n := n) m (n + 1) (Nat.le_refl _) with ⟨e, _⟩ | ⟨j, hj, hf, _, e⟩
  · rw [e]; unfold ex; exact decide_eq_false (by omega)
  · have u := Up_S (n := n) (k := j) (p := p) (by omega) hp
    rw [S_all, sum_W' hp] at e
    have : A p (W - p) n (fun k => decide (p < low n k r)) (n + 1) = Up n j p := by omega
    rw [this]
    exact low_no (of_decide_eq_true hf)
theorem below {n p r : Nat} (hp : p ≤ W) (hr : r < W) : ex n r (A p (W - p) n (fun k => decide (high n k r < p)) (n + 1)) = false := by
  have m : ∀ i, i < n → decide (high n (i + 1) r < p) = true → decide (high n i r < p) = true := by
    intro i hi h
    have h1 := of_decide_eq_true h
    unfold high at h1
    have := low_more (n := n) (k := n - (i + 1)) (r := r) (by omega) hr
    rw [show n - (i + 1) + 1 = n - i by omega] at this
    refine decide_eq_true ?_
    unfold high
    omega
  obtain ⟨j, hj, yes, _, e⟩ := A_down (a := p) (b := W - p) (n := n) (f := fun k => decide (high n k r < p)) m (n + 1) (Nat.le_refl _)
  rw [e]
  cases j with
  | zero => unfold ex S; exact decide_eq_false (by omega)
  | succ k =>
    have h1 := of_decide_eq_true (yes k (by omega))
    unfold high at h1
    have h2 : W - p < low n (n - k) r := by omega
    have h3 := low_no h2
    rw [← Lo_Up (by omega) hp] at h3
    exact h3
end Bn
end Go.Proofs.Ytjfopggpohakkaa
