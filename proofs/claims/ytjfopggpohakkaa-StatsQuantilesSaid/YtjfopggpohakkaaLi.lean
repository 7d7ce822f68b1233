/- Rounds of the loops over limbs, and rows of which a part is written anew. -/
import Derived.Test.YtjfopggpohakkaaNs
import Derived.Laws.CopyOwn
namespace Go.Proofs.Ytjfopggpohakkaa
namespace Nt
theorem B_pos : 0 < B := by decide
/-- A round of a sum of a number and a multiple. -/
theorem put_round {b v p t c A M x y n : Nat} (h : v + p * c = A + t * M) (hn : n = y * t + x + c) :
    v + p * (n % b) + p * b * (n / b) = A + p * x + t * (M + p * y) := by
  have e := Nat.mod_add_div n b
  have e1 : p * (n % b) + p * b * (n / b) = p * n := by rw [Nat.mul_assoc, ← Nat.mul_add, e]
  have e2 : p * n = p * (y * t) + p * x + p * c := by rw [hn, Nat.mul_add, Nat.mul_add]
  have e3 : t * (p * y) = p * (y * t) := by rw [Nat.mul_comm t, Nat.mul_assoc]
  rw [Nat.mul_add t, e3]
  omega
/-- A round of a difference of a number and a multiple. -/
theorem take_round {b v p t c k k' A M x y s nw : Nat} (h : v + t * M = A + p * (c + k)) (hs : s = y * t + c) (hn : nw + s % b + k = x + b * k') :
    v + p * nw + t * (M + p * y) = A + p * x + p * b * (s / b + k') := by
  have e := Nat.mod_add_div s b
  have e3 : t * (p * y) = p * (y * t) := by rw [Nat.mul_comm t, Nat.mul_assoc]
  have e4 : p * nw + p * (s % b) + p * k = p * x + p * b * k' := by rw [← Nat.mul_add, ← Nat.mul_add, hn, Nat.mul_add, Nat.mul_assoc]
  have e5 : p * (s % b) + p * b * (s / b) = p * s := by rw [Nat.mul_assoc, ← Nat.mul_add, e]
  have e6 : p * s = p * (y * t) + p * c := by rw [hs, Nat.mul_add]
  rw [Nat.mul_add t, e3, Nat.mul_add (p * b)]
  rw [Nat.mul_add] at h
  omega
/-- A round of a multiple with a number more. -/
theorem scale_round {b v p f c q A x n : Nat} (h : v + p * c = q + f * A) (hn : n = x * f + c) :
    v + p * (n % b) + p * b * (n / b) = q + f * (A + p * x) := by
  have := put_round (b := b) (t := f) (x := 0) (y := x) (A := q) (M := A) h (n := n) (by omega)
  omega
/-- A round of a division by a limb. -/
theorem shrink_round {b d v r x n D : Nat} (h : D = d * v + r) (hn : n = r * b + x) : x + b * D = d * (n / d + b * v) + n % d := by
  have e := Nat.div_add_mod n d
  have e2 : b * D = d * (b * v) + r * b := by rw [h, Nat.mul_add, Nat.mul_left_comm, Nat.mul_comm b r]
  rw [Nat.mul_add d, e2]
  omega
/-- Bounds of what is carried. -/
theorem put_lt {t c x y : Nat} (ht : t < B) (hc : c < B) (hx : x < B) (hy : y < B) : y * t + x + c < B * B ∧ (y * t + x + c) / B < B := by
  have m : y * t ≤ (B - 1) * (B - 1) := Nat.mul_le_mul (by omega) (by omega)
  have e : y * t + x + c < B * B := by unfold B at *; omega
  exact ⟨e, Nat.div_lt_of_lt_mul e⟩
theorem take_lt {t c y : Nat} (ht : t < B) (hc : c + 1 < B) (hy : y < B) : y * t + c < B * B ∧ (y * t + c) / B + 1 < B := by
  have m : y * t ≤ (B - 1) * (B - 1) := Nat.mul_le_mul (by omega) (by omega)
  have e : y * t + c < (B - 1) * B := by unfold B at *; omega
  refine ⟨by unfold B at *; omega, ?_⟩
  have := Nat.div_lt_of_lt_mul (show y * t + c < B * (B - 1) by rw [Nat.mul_comm B]; exact e)
  omega
theorem shrink_lt {d r x : Nat} (hr : r < d) (hx : x < B) : (r * B + x) / d < B := by
  refine Nat.div_lt_of_lt_mul ?_
  have := Nat.mul_le_mul_right B (show r + 1 ≤ d from hr)
  rw [Nat.add_mul, Nat.one_mul] at this
  omega
/-- A difference of limbs with what was borrowed. -/
theorem sub_limb {x y k : Nat} (hx : x < B) (hy : y < B) (hk : k ≤ 1) : (x + B - y - k) % B + y + k = x + B * (if x < y + k then 1 else 0) ∧ (x + B - y - k) % B < B := by
  refine ⟨?_, Nat.mod_lt _ B_pos⟩
  by_cases c : x < y + k
  · rw [if_pos c, Nat.mod_eq_of_lt (by unfold B at *; omega)]; unfold B at *; omega
  · rw [if_neg c]
    have : x + B - y - k = (x - y - k) + B := by unfold B at *; omega
    rw [this, Nat.add_mod_right, Nat.mod_eq_of_lt (by omega)]; omega
/-- A limb of a row. -/
theorem getD_lt {l : List Nat} (h : Fit l) (j : Nat) : l.getD j 0 < B := by
  rw [List.getD_eq_getElem?_getD]
  cases e : l[j]? with
  | none => exact B_pos
  | some x => exact h x (List.mem_of_getElem? e)
theorem fit_take {l : List Nat} (h : Fit l) (k : Nat) : Fit (l.take k) := fun x hx => h x (List.mem_of_mem_take hx)
theorem fit_drop {l : List Nat} (h : Fit l) (k : Nat) : Fit (l.drop k) := fun x hx => h x (List.mem_of_mem_drop hx)
theorem fit_app {l m : List Nat} (h : Fit l) (h' : Fit m) : Fit (l ++ m) := fun x hx => (List.mem_append.1 hx).elim (h x) (h' x)
theorem fit_one {x : Nat} (h : x < B) : Fit [x] := fun y hy => by obtain rfl := List.mem_singleton.1 hy; exact h
theorem fit_cons {x : Nat} {l : List Nat} (h : x < B) (h' : Fit l) : Fit (x :: l) := fit_app (fit_one h) h'
theorem fit_splice {l m : List Nat} {k : Nat} (h : Fit l) (h' : Fit m) : Fit (Go.splice l k m) := fit_app (fit_take h k) (fit_app h' (fit_drop h _))
theorem fit_set {l : List Nat} {k x : Nat} (h : Fit l) (h' : x < B) : Fit (l.set k x) := fun y hy => (List.mem_or_eq_of_mem_set hy).elim (h y) (fun e => e ▸ h')
theorem val_lt {l : List Nat} (h : Fit l) : val l < B ^ l.length := Pos.val_lt h
theorem fit_zeros (k : Nat) : Fit (List.replicate k 0) := fun x hx => by rw [List.eq_of_mem_replicate hx]; exact B_pos
theorem val_zeros (k : Nat) : val (List.replicate k 0) = 0 := by
  induction k with
  | zero => rfl
  | succ k ih => rw [List.replicate_succ]; show 0 + B * val (List.replicate k 0) = 0; rw [ih]; rfl
/-- Rows with a part written anew. -/
theorem splice_nil (L : List Nat) (o : Nat) : Go.splice L o [] = L := by simp [Go.splice]
theorem getElem?_splice_lt {L c : List Nat} {o j : Nat} (hj : j < o) (ho : o ≤ L.length) : (Go.splice L o c)[j]? = L[j]? := by
  unfold Go.splice
  rw [List.getElem?_append_left (by rw [List.length_take]; omega), List.getElem?_take_of_lt hj]
theorem getElem?_splice_in {L c : List Nat} {o j : Nat} (hj : j < c.length) (ho : o ≤ L.length) : (Go.splice L o c)[o + j]? = c[j]? := by
  unfold Go.splice
  rw [List.getElem?_append_right (by rw [List.length_take]; omega), List.length_take, Nat.min_eq_left ho, Nat.add_sub_cancel_left, List.getElem?_append_left hj]
theorem getElem?_splice_ge {L c : List Nat} {o j : Nat} (hj : o + c.length ≤ j) (ho : o ≤ L.length) : (Go.splice L o c)[j]? = L[j]? := by
  unfold Go.splice
  rw [List.getElem?_append_right (by rw [List.length_take]; omega), List.length_take, Nat.min_eq_left ho, List.getElem?_append_right (by omega), List.getElem?_drop]
  congr 1; omega
theorem splice_next {L c : List Nat} {o y : Nat} (h : o + c.length < L.length) : (Go.splice L o c).set (o + c.length) y = Go.splice L o (c ++ [y]) := by
  refine List.ext_getElem? fun j => ?_
  have hl : (Go.splice L o c).length = L.length := length_splice L o c (by omega)
  by_cases e : j = o + c.length
  · subst e
    rw [List.getElem?_set_self (by omega), getElem?_splice_in (by rw [List.length_append]; simp) (by omega)]
    simp
  · rw [List.getElem?_set_ne (by omega)]
    by_cases h1 : j < o
    · rw [getElem?_splice_lt h1 (by omega), getElem?_splice_lt h1 (by omega)]
    · by_cases h2 : j < o + c.length
      · obtain ⟨i, rfl⟩ : ∃ i, j = o + i := ⟨j - o, by omega⟩
        rw [getElem?_splice_in (by omega) (by omega), getElem?_splice_in (by rw [List.length_append]; simp; omega) (by omega), List.getElem?_append_left (by omega)]
      · rw [getElem?_splice_ge (by omega) (by omega), getElem?_splice_ge (by rw [List.length_append]; simp; omega) (by omega)]
theorem splice_back {L c : List Nat} {o y : Nat} (h : o + 1 + c.length ≤ L.length) : (Go.splice L (o + 1) c).set o y = Go.splice L o (y :: c) := by
  refine List.ext_getElem? fun j => ?_
  have hl : (Go.splice L (o + 1) c).length = L.length := length_splice L (o + 1) c (by omega)
  by_cases e : j = o
  · subst e
    have := getElem?_splice_in (L := L) (c := y :: c) (o := j) (j := 0) (by simp) (by omega)
    rw [List.getElem?_set_self (by omega)]
    rw [Nat.add_zero] at this; rw [this]; rfl
  · rw [List.getElem?_set_ne (by omega)]
    by_cases h1 : j < o
    · rw [getElem?_splice_lt (by omega) (by omega), getElem?_splice_lt h1 (by omega)]
    · by_cases h2 : j < o + 1 + c.length
      · obtain ⟨i, rfl⟩ : ∃ i, j = o + 1 + i := ⟨j - o - 1, by omega⟩
        rw [getElem?_splice_in (by omega) (by omega), show o + 1 + i = o + (i + 1) by omega, getElem?_splice_in (by rw [List.length_cons]; omega) (by omega)]
        rfl
      · rw [getElem?_splice_ge (by omega) (by omega), getElem?_splice_ge (by rw [List.length_cons]; omega) (by omega)]
theorem getD_splice_ge {L c : List Nat} {o j : Nat} (hj : o + c.length ≤ j) (ho : o ≤ L.length) : (Go.splice L o c).getD j 0 = L.getD j 0 := by
  rw [List.getD_eq_getElem?_getD, List.getD_eq_getElem?_getD, getElem?_splice_ge hj ho]
theorem getD_splice_lt {L c : List Nat} {o j : Nat} (hj : j < o) (ho : o ≤ L.length) : (Go.splice L o c).getD j 0 = L.getD j 0 := by
  rw [List.getD_eq_getElem?_getD, List.getD_eq_getElem?_getD, getElem?_splice_lt hj ho]
/-- A part of a row. -/
def part (L : List Nat) (o n : Nat) : List Nat := (L.drop o).take n
theorem part_len {L : List Nat} {o n : Nat} (h : o + n ≤ L.length) : (part L o n).length = n := by unfold part; rw [List.length_take, List.length_drop]; omega
theorem part_getD (L : List Nat) (o n j : Nat) (hj : j < n) : (part L o n).getD j 0 = L.getD (o + j) 0 := by
  unfold part; rw [List.getD_eq_getElem?_getD, List.getD_eq_getElem?_getD, List.getElem?_take_of_lt hj, List.getElem?_drop]
theorem part_next (L : List Nat) (o k : Nat) : val (part L o (k + 1)) = val (part L o k) + B ^ k * L.getD (o + k) 0 := by
  unfold part
  have := Pos.val_take B (L.drop o) k
  rw [List.getD_eq_getElem?_getD, List.getElem?_drop, ← List.getD_eq_getElem?_getD] at this
  exact this
theorem part_all (L : List Nat) : part L 0 L.length = L := by unfold part; rw [List.drop_zero, List.take_length]
theorem fit_part {L : List Nat} (h : Fit L) (o n : Nat) : Fit (part L o n) := fit_take (fit_drop h o) n
theorem val_parts {L : List Nat} {o n : Nat} (h : o + n ≤ L.length) : val L = val (L.take o) + B ^ o * (val (part L o n) + B ^ n * val (L.drop (o + n))) := by
  have h1 := Pos.val_split B L o (by omega)
  have h2 := Pos.val_split B (L.drop o) n (by rw [List.length_drop]; omega)
  rw [List.drop_drop] at h2
  show Pos.val B L = _
  rw [h1, h2]; rfl
theorem val_splice {L c : List Nat} {o : Nat} (h : o + c.length ≤ L.length) : val (Go.splice L o c) = val (L.take o) + B ^ o * (val c + B ^ c.length * val (L.drop (o + c.length))) := by
  unfold Go.splice
  show Pos.val B _ = _
  rw [Pos.val_append, Pos.val_append, List.length_take, Nat.min_eq_left (by omega)]; rfl
theorem take_splice {L c : List Nat} {o : Nat} (h : o ≤ L.length) : (Go.splice L o c).take o = L.take o := by
  unfold Go.splice; rw [List.take_append_of_le_length (by rw [List.length_take]; omega), List.take_take, Nat.min_self]
theorem drop_splice {L c : List Nat} {o : Nat} (h : o + c.length ≤ L.length) : (Go.splice L o c).drop (o + c.length) = L.drop (o + c.length) := by
  refine List.ext_getElem? fun j => ?_
  rw [List.getElem?_drop, List.getElem?_drop, getElem?_splice_ge (by omega) (by omega)]
theorem part_splice {L c : List Nat} {o : Nat} (h : o + c.length ≤ L.length) : part (Go.splice L o c) o c.length = c := by
  refine List.ext_getElem? fun j => ?_
  unfold part
  by_cases hj : j < c.length
  · rw [List.getElem?_take_of_lt hj, List.getElem?_drop, getElem?_splice_in hj (by omega)]
  · rw [List.getElem?_eq_none (by rw [List.length_take]; omega), List.getElem?_eq_none (by omega)]
end Nt
end Go.Proofs.Ytjfopggpohakkaa
