/- Numbers as lists of digits to any base, the lowest one first. -/
import Derived.WalkKit
namespace Go.Proofs.Ytjfopggpohakkaa
namespace Pos
/-- The value of digits. -/
def val (b : Nat) : List Nat → Nat
  | [] => 0
  | x :: xs => x + b * val b xs
/-- Digits below the base, the last one not zero. -/
def Ok (b : Nat) (l : List Nat) : Prop := (∀ x ∈ l, x < b) ∧ l.getLast? ≠ some 0
theorem val_nil (b : Nat) : val b [] = 0 := rfl
theorem val_cons (b x : Nat) (xs : List Nat) : val b (x :: xs) = x + b * val b xs := rfl
theorem val_append (b : Nat) (xs ys : List Nat) : val b (xs ++ ys) = val b xs + b ^ xs.length * val b ys := by
  induction xs with
  | nil => simp [val]
  | cons x xs ih =>
    rw [List.cons_append, val_cons, val_cons, ih, List.length_cons, Nat.pow_succ, Nat.mul_add, Nat.add_assoc, Nat.mul_comm (b ^ xs.length) b, Nat.mul_assoc]
theorem val_snoc (b x : Nat) (xs : List Nat) : val b (xs ++ [x]) = val b xs + b ^ xs.length * x := by
  rw [val_append, val_cons, val_nil, Nat.mul_zero, Nat.add_zero]
theorem val_lt {b : Nat} {xs : List Nat} (h : ∀ x ∈ xs, x < b) : val b xs < b ^ xs.length := by
  induction xs with
  | nil => simp [val]
  | cons x xs ih =>
    have i := ih (fun y hy => h y (List.mem_cons_of_mem _ hy))
    have hx := h x List.mem_cons_self
    have hm : b * (val b xs + 1) ≤ b * b ^ xs.length := Nat.mul_le_mul_left b i
    rw [val_cons, List.length_cons, Nat.pow_succ, Nat.mul_comm (b ^ xs.length) b]
    rw [Nat.mul_add, Nat.mul_one] at hm
    omega
theorem ok_nil (b : Nat) : Ok b [] := ⟨fun x h => absurd h List.not_mem_nil, by simp⟩
theorem ok_tail {b x : Nat} {xs : List Nat} (h : Ok b (x :: xs)) : Ok b xs := by
  refine ⟨fun y hy => h.1 y (List.mem_cons_of_mem _ hy), ?_⟩
  cases xs with
  | nil => simp
  | cons y ys => have := h.2; rw [List.getLast?_cons_cons] at this; exact this
theorem val_ge {b : Nat} : ∀ {x : Nat} {xs : List Nat}, Ok b (x :: xs) → b ^ xs.length ≤ val b (x :: xs) := by
  intro x xs
  induction xs generalizing x with
  | nil => intro h; have h2 := h.2; simp at h2; simp [val]; omega
  | cons y ys ih =>
    intro h
    have i := Nat.mul_le_mul_left b (ih (ok_tail h))
    rw [val_cons, List.length_cons, Nat.pow_succ, Nat.mul_comm (b ^ ys.length) b]
    omega
theorem val_inj {b : Nat} : ∀ {l m : List Nat}, Ok b l → Ok b m → val b l = val b m → l = m := by
  intro l
  induction l with
  | nil =>
    intro m _ hm e
    cases m with
    | nil => rfl
    | cons y ys =>
      have g := val_ge hm
      have hb : 0 < b := Nat.lt_of_le_of_lt (Nat.zero_le y) (hm.1 y List.mem_cons_self)
      have := Nat.pow_pos (n := ys.length) hb
      rw [val_nil] at e; omega
  | cons x xs ih =>
    intro m hl hm e
    cases m with
    | nil =>
      have g := val_ge hl
      have hb : 0 < b := Nat.lt_of_le_of_lt (Nat.zero_le x) (hl.1 x List.mem_cons_self)
      have := Nat.pow_pos (n := xs.length) hb
      rw [val_nil] at e; omega
    | cons y ys =>
      have hx := hl.1 x List.mem_cons_self
      have hy := hm.1 y List.mem_cons_self
      rw [val_cons, val_cons] at e
      have em : x = y := by
        have := congrArg (· % b) e
        simp only [Nat.add_mul_mod_self_left, Nat.mod_eq_of_lt hx, Nat.mod_eq_of_lt hy] at this
        exact this
      subst em
      have ed : val b xs = val b ys := Nat.eq_of_mul_eq_mul_left (show 0 < b by omega) (by omega)
      rw [ih (ok_tail hl) (ok_tail hm) ed]
/-- A number has at most k digits just if it is less than the k-th power of the base. -/
theorem len_le {b : Nat} {l : List Nat} (hb : 2 ≤ b) (h : Ok b l) (k : Nat) : l.length ≤ k ↔ val b l < b ^ k := by
  constructor
  · intro hk; exact Nat.lt_of_lt_of_le (val_lt h.1) (Nat.pow_le_pow_right (by omega) hk)
  · intro hv
    cases l with
    | nil => simp
    | cons x xs =>
      have g := val_ge h
      by_cases hc : xs.length < k
      · simp only [List.length_cons]; omega
      · have := Nat.pow_le_pow_right (n := b) (by omega) (show k ≤ xs.length by omega); omega
theorem lt_of_len {b : Nat} {l m : List Nat} (hb : 2 ≤ b) (hl : Ok b l) (hm : Ok b m) (h : l.length < m.length) : val b l < val b m := by
  refine Nat.lt_of_not_le fun hc => ?_
  have h1 := (len_le hb hl l.length).1 (Nat.le_refl _)
  have h2 := (len_le hb hm l.length).2 (by omega)
  omega
theorem val_zero {b : Nat} {l : List Nat} (h : Ok b l) : val b l = 0 ↔ l = [] := by
  constructor
  · intro e; exact val_inj h (ok_nil b) (by rw [e, val_nil])
  · intro e; rw [e, val_nil]
/-- The digits of a number. -/
def digF (b : Nat) : Nat → Nat → List Nat
  | 0, _ => []
  | f + 1, n => if n = 0 then [] else n % b :: digF b f (n / b)
def dig (b n : Nat) : List Nat := digF b n n
theorem digF_ok {b : Nat} (hb : 2 ≤ b) : ∀ (f n : Nat), n ≤ f → val b (digF b f n) = n ∧ Ok b (digF b f n) := by
  intro f
  induction f with
  | zero => intro n h; have : n = 0 := by omega
            subst this; exact ⟨rfl, ok_nil b⟩
  | succ f ih =>
    intro n h
    by_cases hn : n = 0
    · subst hn; exact ⟨rfl, ok_nil b⟩
    · have hlt := Nat.div_lt_self (show 0 < n by omega) (show 1 < b by omega)
      obtain ⟨i1, i2⟩ := ih (n / b) (by omega)
      have e : digF b (f + 1) n = n % b :: digF b f (n / b) := by rw [digF, if_neg hn]
      rw [e]
      refine ⟨by rw [val_cons, i1]; exact Nat.mod_add_div n b, ?_, ?_⟩
      · intro x hx
        rcases List.mem_cons.1 hx with rfl | hx
        · exact Nat.mod_lt _ (by omega)
        · exact i2.1 x hx
      · cases hd : digF b f (n / b) with
        | nil =>
          rw [hd, val_nil] at i1
          have := Nat.mod_add_div n b
          rw [← i1, Nat.mul_zero, Nat.add_zero] at this
          simp; omega
        | cons y ys => rw [hd] at i2; rw [List.getLast?_cons_cons]; exact i2.2
theorem dig_val {b : Nat} (hb : 2 ≤ b) (n : Nat) : val b (dig b n) = n := (digF_ok hb n n (Nat.le_refl _)).1
theorem dig_ok {b : Nat} (hb : 2 ≤ b) (n : Nat) : Ok b (dig b n) := (digF_ok hb n n (Nat.le_refl _)).2
theorem dig_of {b : Nat} {l : List Nat} (hb : 2 ≤ b) (h : Ok b l) : dig b (val b l) = l := val_inj (dig_ok hb _) h (dig_val hb _)
theorem dig_zero (b : Nat) : dig b 0 = [] := rfl
theorem dig_step {b n : Nat} (hb : 2 ≤ b) (hn : n ≠ 0) : dig b n = n % b :: dig b (n / b) := by
  have hlt := Nat.div_lt_self (show 0 < n by omega) (show 1 < b by omega)
  refine val_inj (dig_ok hb n) ⟨?_, ?_⟩ ?_
  · intro x hx
    rcases List.mem_cons.1 hx with rfl | hx
    · exact Nat.mod_lt _ (by omega)
    · exact (dig_ok hb _).1 x hx
  · cases hd : dig b (n / b) with
    | nil =>
      have i1 := dig_val hb (n / b)
      rw [hd, val_nil] at i1
      have := Nat.mod_add_div n b
      rw [← i1, Nat.mul_zero, Nat.add_zero] at this
      simp; omega
    | cons y ys => have i2 := (dig_ok hb (n / b)).2; rw [hd] at i2; rw [List.getLast?_cons_cons]; exact i2
  · rw [dig_val hb, val_cons, dig_val hb]; exact (Nat.mod_add_div n b).symm
theorem dig_len {b : Nat} (hb : 2 ≤ b) (n k : Nat) : (dig b n).length ≤ k ↔ n < b ^ k := by
  have := len_le hb (dig_ok hb n) k
  rw [dig_val hb] at this; exact this
/-- One digit more. -/
theorem val_take (b : Nat) (l : List Nat) (k : Nat) : val b (l.take (k + 1)) = val b (l.take k) + b ^ k * l.getD k 0 := by
  by_cases h : k < l.length
  · rw [List.take_succ_eq_append_getElem h, val_snoc, List.length_take, Nat.min_eq_left (by omega), List.getD_eq_getElem?_getD, List.getElem?_eq_getElem h]; rfl
  · rw [List.take_of_length_le (by omega), List.take_of_length_le (by omega), List.getD_eq_getElem?_getD, List.getElem?_eq_none (by omega)]; simp
theorem val_drop (b : Nat) (l : List Nat) (k : Nat) : val b (l.drop k) = l.getD k 0 + b * val b (l.drop (k + 1)) := by
  by_cases h : k < l.length
  · rw [List.drop_eq_getElem_cons h, val_cons, List.getD_eq_getElem?_getD, List.getElem?_eq_getElem h]; rfl
  · rw [List.drop_of_length_le (by omega), List.drop_of_length_le (by omega), List.getD_eq_getElem?_getD, List.getElem?_eq_none (by omega)]; simp [val]
theorem val_split (b : Nat) (l : List Nat) (k : Nat) (h : k ≤ l.length) : val b l = val b (l.take k) + b ^ k * val b (l.drop k) := by
  conv => lhs; rw [← List.take_append_drop k l]
  rw [val_append, List.length_take, Nat.min_eq_left h]
/-- The highest digit that differs decides. -/
theorem val_cmp {b : Nat} {l m : List Nat} (hl : ∀ x ∈ l, x < b) {k : Nat} (h1 : k < l.length) (h2 : k < m.length)
    (he : val b (l.drop (k + 1)) = val b (m.drop (k + 1))) (hk : l.getD k 0 < m.getD k 0) : val b l < val b m := by
  rw [val_split b l k (by omega), val_split b m k (by omega), val_drop b l k, val_drop b m k, he]
  have ht : val b (l.take k) < b ^ k := by
    have := val_lt (b := b) (xs := l.take k) (fun x hx => hl x (List.mem_of_mem_take hx))
    rw [List.length_take, Nat.min_eq_left (by omega)] at this; exact this
  have hm := Nat.mul_le_mul_left (b ^ k) (show l.getD k 0 + b * val b (m.drop (k + 1)) + 1 ≤ m.getD k 0 + b * val b (m.drop (k + 1)) by omega)
  rw [Nat.mul_add, Nat.mul_one] at hm
  omega
/-- A round of an addition. -/
theorem add_round {b v p c e x s : Nat} (h : v + p * c = e) (hs : s = x + c) : v + p * (s % b) + p * b * (s / b) = e + p * x := by
  have := Nat.mod_add_div s b
  rw [Nat.mul_assoc, Nat.add_assoc, ← Nat.mul_add, this, hs, Nat.mul_add]; omega
/-- A round of a subtraction. -/
theorem sub_round {b v p w A B x y n : Nat} (h : v + B = A + p * w) (hn : n + y + w = b + x) (hq : n / b ≤ 1) :
    v + p * (n % b) + (B + p * y) = A + p * x + p * b * (1 - n / b) := by
  have e := Nat.mod_add_div n b
  revert e hq
  generalize n / b = t
  generalize n % b = r
  intro hq e
  have e2 : p * n + p * y + p * w = p * b + p * x := by rw [← Nat.mul_add, ← Nat.mul_add, ← Nat.mul_add, hn]
  have ht : t = 0 ∨ t = 1 := by omega
  rcases ht with rfl | rfl
  · rw [Nat.mul_zero, Nat.add_zero] at e
    subst e
    rw [Nat.sub_zero, Nat.mul_one]; omega
  · rw [Nat.mul_one] at e
    subst e
    rw [Nat.mul_add] at e2
    rw [Nat.sub_self, Nat.mul_zero]; omega
/-- A fixed number of digits. -/
def pad (b : Nat) : Nat → Nat → List Nat
  | 0, _ => []
  | k + 1, x => x % b :: pad b k (x / b)
theorem pad_len (b k x : Nat) : (pad b k x).length = k := by
  induction k generalizing x with
  | zero => rfl
  | succ k ih => rw [pad, List.length_cons, ih]
theorem pad_val (b k x : Nat) : val b (pad b k x) = x % b ^ k := by
  induction k generalizing x with
  | zero => rw [pad, val_nil, Nat.pow_zero, Nat.mod_one]
  | succ k ih => rw [pad, val_cons, ih, Nat.pow_succ, Nat.mul_comm (b ^ k) b, Nat.mod_mul]
theorem pad_lt {b : Nat} (hb : 0 < b) (k x : Nat) : ∀ y ∈ pad b k x, y < b := by
  induction k generalizing x with
  | zero => intro y h; exact absurd h List.not_mem_nil
  | succ k ih =>
    intro y h
    rcases List.mem_cons.1 h with rfl | h
    · exact Nat.mod_lt _ hb
    · exact ih _ y h
/-- Digits to a power of the base, each written with digits to the base. -/
theorem val_flat {b k : Nat} {f : Nat → List Nat} {l : List Nat} (hf : ∀ x ∈ l, (f x).length = k ∧ val b (f x) = x) :
    val b (l.flatMap f) = val (b ^ k) l := by
  induction l with
  | nil => rfl
  | cons x xs ih =>
    obtain ⟨h1, h2⟩ := hf x List.mem_cons_self
    rw [List.flatMap_cons, val_append, h1, h2, ih (fun y hy => hf y (List.mem_cons_of_mem _ hy)), val_cons]
theorem flat_len {k : Nat} {f : Nat → List Nat} {l : List Nat} (hf : ∀ x ∈ l, (f x).length = k) : (l.flatMap f).length = k * l.length := by
  induction l with
  | nil => rfl
  | cons x xs ih =>
    rw [List.flatMap_cons, List.length_append, hf x List.mem_cons_self, ih (fun y hy => hf y (List.mem_cons_of_mem _ hy)), List.length_cons, Nat.mul_add]; omega
/-- Zeros at the end count nothing. -/
theorem val_take_zero {b k : Nat} {l : List Nat} (h : l.getD k 0 = 0) : val b (l.take (k + 1)) = val b (l.take k) := by
  rw [val_take, h, Nat.mul_zero, Nat.add_zero]
theorem take_dig {b : Nat} {l : List Nat} {k : Nat} (hb : 2 ≤ b) (hl : ∀ x ∈ l, x < b) (hv : val b (l.take k) = val b l)
    (hk : k = 0 ∨ k ≤ l.length ∧ l.getD (k - 1) 0 ≠ 0) : l.take k = dig b (val b l) := by
  rw [← hv]
  refine (dig_of hb ⟨fun x hx => hl x (List.mem_of_mem_take hx), ?_⟩).symm
  rcases hk with rfl | ⟨h1, h2⟩
  · simp
  · rw [List.getLast?_eq_getElem?, List.length_take, Nat.min_eq_left h1]
    intro e
    by_cases hz : k = 0
    · subst hz; simp at e
    · rw [List.getElem?_take_of_lt (by omega)] at e
      rw [List.getD_eq_getElem?_getD, e] at h2; exact h2 rfl
/-- Digits by their number. -/
theorem dig_getD {b : Nat} (hb : 2 ≤ b) (n k : Nat) : (dig b n).getD k 0 = n / b ^ k % b := by
  induction k generalizing n with
  | zero =>
    by_cases hn : n = 0
    · subst hn; simp [dig_zero]
    · rw [dig_step hb hn]; simp
  | succ k ih =>
    by_cases hn : n = 0
    · subst hn; simp [dig_zero]
    · rw [dig_step hb hn, List.getD_cons_succ, ih, Nat.pow_succ, Nat.mul_comm (b ^ k) b, Nat.div_div_eq_div_mul]
theorem dig_drop {b : Nat} (hb : 2 ≤ b) (n k : Nat) : val b ((dig b n).drop k) = n / b ^ k := by
  induction k generalizing n with
  | zero => rw [List.drop_zero, dig_val hb]; simp
  | succ k ih =>
    by_cases hn : n = 0
    · subst hn; simp [dig_zero, val_nil]
    · rw [dig_step hb hn, List.drop_succ_cons, ih, Nat.pow_succ, Nat.mul_comm (b ^ k) b, Nat.div_div_eq_div_mul]
end Pos
end Go.Proofs.Ytjfopggpohakkaa
