/- The division of limbs, digit by digit. -/
import Derived.Test.YtjfopggpohakkaaLi
import Derived.Test.YtjfopggpohakkaaKn
namespace Go.Proofs.Ytjfopggpohakkaa
namespace Nt
/-- The estimate of a digit is not too low. -/
theorem est {u d : List Nat} {n q : Nat} (hu : Fit u) (lu : u.length = n + 1 + 1) (ld : d.length = n + 1) (h0 : 0 < d.getD n 0) (hq : q * val d ≤ val u) :
    q ≤ (u.getD (n + 1) 0 * B + u.getD n 0) / d.getD n 0 := by
  have e1 : val d = d.getD n 0 * B ^ n + val (d.take n) := by
    have := Pos.val_take B d n
    rw [List.take_of_length_le (by omega)] at this
    show Pos.val B d = _
    rw [this, Nat.mul_comm (B ^ n)]; exact Nat.add_comm _ _
  have e2 : val u = (u.getD (n + 1) 0 * B + u.getD n 0) * B ^ n + val (u.take n) := by
    have h1 := Pos.val_take B u (n + 1)
    have h2 := Pos.val_take B u n
    rw [List.take_of_length_le (by omega)] at h1
    show Pos.val B u = _
    rw [h1, h2, Nat.pow_succ, Nat.add_mul, Nat.mul_assoc (u.getD (n + 1) 0), Nat.mul_comm B, Nat.mul_comm (u.getD (n + 1) 0), Nat.mul_comm (u.getD n 0)]
    show val (u.take n) + _ + _ = _
    omega
  have f : val (u.take n) < B ^ n := by
    have := val_lt (fit_take hu n)
    rw [List.length_take, Nat.min_eq_left (by omega)] at this
    exact this
  rw [e1, e2] at hq
  exact Kn.est_ge hq f h0
theorem est_top {u d : List Nat} {q : Nat} (hq : q * val d ≤ val u) (hlt : val u < B * val d) : q < B := by
  refine Nat.lt_of_not_le fun hc => ?_
  have := Nat.mul_le_mul_right (val d) hc
  omega
/-- Before a digit is found. -/
theorem div_before {R : List Nat} {D i n : Nat} (hR : Fit R) (hi : i + 1 + n ≤ R.length) (hD : D < B ^ n) (h : val (R.drop (i + 1)) < D) :
    val (R.drop (i + (n + 1))) = 0 ∧ val (part R i (n + 1)) < B * D ∧ val (R.drop i) = val (part R i (n + 1)) := by
  have s1 := Pos.val_split B (R.drop (i + 1)) n (by rw [List.length_drop]; omega)
  rw [List.drop_drop] at s1
  have z : val (R.drop (i + 1 + n)) = 0 := by
    refine Nat.eq_zero_of_not_pos fun hc => ?_
    have := Nat.mul_le_mul_left (B ^ n) (show 1 ≤ val (R.drop (i + 1 + n)) from hc)
    have s2 : val (R.drop (i + 1)) = val ((R.drop (i + 1)).take n) + B ^ n * val (R.drop (i + 1 + n)) := s1
    omega
  have z' : val (R.drop (i + (n + 1))) = 0 := by rw [show i + (n + 1) = i + 1 + n by omega]; exact z
  have s3 := Pos.val_split B (R.drop i) (n + 1) (by rw [List.length_drop]; omega)
  rw [List.drop_drop] at s3
  have s4 : val (R.drop i) = val (part R i (n + 1)) + B ^ (n + 1) * val (R.drop (i + (n + 1))) := s3
  rw [z', Nat.mul_zero, Nat.add_zero] at s4
  refine ⟨z', ?_, s4⟩
  have s5 : val (R.drop i) = R.getD i 0 + B * val (R.drop (i + 1)) := Pos.val_drop B R i
  have m := Nat.mul_le_mul_left B (show val (R.drop (i + 1)) + 1 ≤ D from h)
  have x := getD_lt hR i
  rw [Nat.mul_add, Nat.mul_one] at m
  omega
/-- Behind it. -/
theorem div_behind {R c : List Nat} {D q i n : Nat} (hi : i + (n + 1) ≤ R.length) (lc : c.length = n + 1) (hz : val (R.drop (i + (n + 1))) = 0) (he : val c + q * D = val (part R i (n + 1))) (hc : val c < D) :
    val ((Go.splice R i c).drop i) < D ∧ val R = val (Go.splice R i c) + B ^ i * (q * D) := by
  have v1 := val_splice (L := R) (c := c) (o := i) (by omega)
  have v2 := val_parts (L := R) (o := i) (n := n + 1) (by omega)
  rw [lc, hz, Nat.mul_zero, Nat.add_zero] at v1
  rw [hz, Nat.mul_zero, Nat.add_zero, ← he, Nat.mul_add] at v2
  refine ⟨?_, by omega⟩
  have s := Pos.val_split B (Go.splice R i c) i (by rw [length_splice _ _ _ (by omega)]; omega)
  rw [take_splice (by omega)] at s
  have s' : val (Go.splice R i c) = val (R.take i) + B ^ i * val ((Go.splice R i c).drop i) := s
  have : B ^ i * val ((Go.splice R i c).drop i) = B ^ i * val c := by omega
  have p : 0 < B ^ i := Nat.pow_pos B_pos
  rw [Nat.eq_of_mul_eq_mul_left p this]; exact hc
/-- At the first digit. -/
theorem div_first {R : List Nat} {A t D N n : Nat} (hn : 1 ≤ n) (hN : n ≤ N) (lR : R.length = N + 1) (hv : val R = A * t) (hA : A < B ^ N) (ht : 0 < t) (hD : B ^ (n - 1) * t ≤ D) :
    val (R.drop (N - n + 1)) < D := by
  have s := Pos.val_split B R (N - n + 1) (by omega)
  have s' : val R = val (R.take (N - n + 1)) + B ^ (N - n + 1) * val (R.drop (N - n + 1)) := s
  have p : 0 < B ^ (N - n + 1) := Nat.pow_pos B_pos
  refine Nat.lt_of_not_le fun hc => ?_
  have m1 := Nat.mul_le_mul_left (B ^ (N - n + 1)) (Nat.le_trans hD hc)
  rw [← Nat.mul_assoc, ← Nat.pow_add, show N - n + 1 + (n - 1) = N by omega] at m1
  have m2 := Nat.mul_lt_mul_of_pos_right hA ht
  omega
/-- A zero that is set. -/
theorem val_set {l : List Nat} {i q : Nat} (hi : i < l.length) (h : l.getD i 0 = 0) : val (l.set i q) = val l + B ^ i * q := by
  have s1 := val_splice (L := l) (c := [q]) (o := i) (by rw [List.length_singleton]; omega)
  have e : Go.splice l i [q] = l.set i q := by
    have := splice_next (L := l) (c := []) (o := i) (y := q) (by simpa using hi)
    rw [splice_nil, List.nil_append, List.length_nil, Nat.add_zero] at this
    exact this.symm
  have s2 := val_parts (L := l) (o := i) (n := 1) (by omega)
  have p := part_next l i 0
  rw [Nat.add_zero i, h, Nat.mul_zero] at p
  have p0 : val (part l i 0) = 0 := by unfold part; rw [List.take_zero]; rfl
  rw [p0] at p
  have q1 : val [q] = q := by show q + B * 0 = q; omega
  rw [e, List.length_singleton, q1] at s1
  rw [p, Nat.zero_add] at s2
  rw [s1, s2, Nat.mul_add (B ^ i) q]; omega
/-- The quotient and the remainder. -/
theorem div_end {a b t q r v k : Nat} (ht : 0 < t) (h : a * t = r + b * t * q) (hr : r < b * t) (hv : r = t * v + k) (hk : k < t) :
    a / b = q ∧ a % b = v := by
  have k0 : k = 0 := by
    have e1 : (a * t) % t = 0 := Nat.mul_mod_left a t
    have e2 : (t * v + k + b * t * q) % t = k := by
      rw [show t * v + k + b * t * q = k + t * (v + b * q) by rw [Nat.mul_add t, Nat.mul_comm b t, Nat.mul_assoc]; omega, Nat.add_mul_mod_self_left, Nat.mod_eq_of_lt hk]
    rw [h, hv] at e1
    omega
  subst k0
  rw [Nat.add_zero] at hv
  have e : t * a = t * (v + b * q) := by
    rw [Nat.mul_comm t a, h, hv, Nat.mul_add t, Nat.mul_comm b t, Nat.mul_assoc]
  have e' := Nat.eq_of_mul_eq_mul_left ht e
  have lt : v < b := by
    rw [hv, Nat.mul_comm b t] at hr
    exact Nat.lt_of_mul_lt_mul_left hr
  have hb : 0 < b := by omega
  subst e'
  refine ⟨?_, ?_⟩
  · rw [Nat.add_mul_div_left _ _ hb, Nat.div_eq_of_lt lt, Nat.zero_add]
  · rw [Nat.add_mul_mod_self_left, Nat.mod_eq_of_lt lt]
end Nt
end Go.Proofs.Ytjfopggpohakkaa
