/- Decimal digits as bytes. -/
import Derived.Test.YtlmigbfpdbkkjaaDoorBg
import Derived.Lib.TrimByte
namespace Go.Proofs.YtlmigbfpdbkkjaaDoor
namespace Nt
/-- A digit's byte. -/
def dby (d : Nat) : UInt8 := UInt8.ofNat (48 + d)
/-- The last m digits of a number. -/
def dgs (m v : Nat) : List UInt8 := ((Pos.pad 10 m v).map dby).reverse
/-- The text of a number. -/
def txt (v : Nat) : List UInt8 := if v = 0 then [48] else ((Pos.dig 10 v).map dby).reverse
theorem dby_nat {d : Nat} (h : d < 10) : (dby d).toNat = 48 + d := by
  unfold dby; rw [UInt8.toNat_ofNat']; omega
theorem pad_snoc (b m v : Nat) : Pos.pad b (m + 1) v = Pos.pad b m v ++ [v / b ^ m % b] := by
  induction m generalizing v with
  | zero => simp [Pos.pad]
  | succ m ih =>
    have e : Pos.pad b (m + 1 + 1) v = v % b :: Pos.pad b (m + 1) (v / b) := rfl
    rw [e, ih (v / b), Nat.div_div_eq_div_mul, ← Nat.pow_succ']
    rfl
theorem dgs_len (m v : Nat) : (dgs m v).length = m := by unfold dgs; rw [List.length_reverse, List.length_map, Pos.pad_len]
theorem dgs_zero (v : Nat) : dgs 0 v = [] := rfl
theorem dgs_next (m v : Nat) : dgs (m + 1) v = dby (v / 10 ^ m % 10) :: dgs m v := by
  unfold dgs; rw [pad_snoc, List.map_append, List.reverse_append]; rfl
theorem pad_dig {b : Nat} (hb : 2 ≤ b) (m v : Nat) (h : v < b ^ m) : ∃ k, Pos.pad b m v = Pos.dig b v ++ List.replicate k 0 := by
  induction m generalizing v with
  | zero =>
    rw [Nat.pow_zero] at h
    have : v = 0 := by omega
    subst this
    exact ⟨0, rfl⟩
  | succ m ih =>
    have e : Pos.pad b (m + 1) v = v % b :: Pos.pad b m (v / b) := rfl
    by_cases hv : v = 0
    · subst hv
      obtain ⟨k, hk⟩ := ih 0 (Nat.pow_pos (by omega))
      refine ⟨k + 1, ?_⟩
      rw [e, Nat.zero_div, hk, Nat.zero_mod]
      rfl
    · obtain ⟨k, hk⟩ := ih (v / b) (Nat.div_lt_of_lt_mul (by rw [Nat.pow_succ, Nat.mul_comm] at h; exact h))
      refine ⟨k, ?_⟩
      rw [e, hk, Pos.dig_step hb hv]
      rfl
theorem drop_zeros (c : UInt8) (k : Nat) (l : List UInt8) (h : l = [] ∨ ∃ x t, l = x :: t ∧ x ≠ c) : (List.replicate k c ++ l).dropWhile (· == c) = l := by
  induction k with
  | zero =>
    rcases h with rfl | ⟨x, t, rfl, hx⟩
    · rfl
    · simp [hx]
  | succ k ih => rw [List.replicate_succ, List.cons_append, List.dropWhile_cons_of_pos (by simp)]; exact ih
theorem head_dig {v : Nat} (hv : v ≠ 0) : ∃ x t, ((Pos.dig 10 v).map dby).reverse = x :: t ∧ x ≠ 48 := by
  have ok := Pos.dig_ok (b := 10) (by decide) v
  have ne : Pos.dig 10 v ≠ [] := by
    intro e
    have := Pos.dig_val (b := 10) (by decide) v
    rw [e] at this
    exact hv this.symm
  obtain ⟨d, hd⟩ : ∃ d, (Pos.dig 10 v).getLast? = some d := ⟨_, List.getLast?_eq_some_getLast ne⟩
  have d0 : d ≠ 0 := fun e => ok.2 (by rw [hd, e])
  have dm : d ∈ Pos.dig 10 v := List.mem_of_getLast? hd
  have d10 := ok.1 d dm
  obtain ⟨ys, hys⟩ := List.getLast?_eq_some_iff.1 hd
  refine ⟨dby d, ((ys.map dby).reverse), ?_, ?_⟩
  · rw [hys, List.map_append, List.reverse_append]; rfl
  · intro e
    have := congrArg UInt8.toNat e
    rw [dby_nat d10] at this
    have : 48 + d = 48 := this
    omega
theorem trim_dgs {m v : Nat} (hv : v ≠ 0) (h : v < 10 ^ m) : Lib.trimLeftB (dgs m v) 48 = txt v := by
  obtain ⟨k, hk⟩ := pad_dig (b := 10) (by decide) m v h
  unfold Lib.trimLeftB dgs txt
  rw [if_neg hv, hk, List.map_append, List.reverse_append, List.map_replicate, List.reverse_replicate]
  exact drop_zeros _ _ _ (Or.inr (head_dig hv))
/-- A digit out of a group. -/
theorem group_digit (x j : Nat) (hj : j < 9) : x % 1000000000 / 10 ^ j % 10 = x / 10 ^ j % 10 := by
  have e : 1000000000 = 10 ^ j * 10 ^ (9 - j) := by rw [← Nat.pow_add, show j + (9 - j) = 9 by omega]
  rw [e, Nat.mod_mul_right_div_self]
  exact Nat.mod_mod_of_dvd _ (Nat.pow_dvd_pow 10 (show 1 ≤ 9 - j by omega))
theorem group_next (x j : Nat) : x / 10 ^ j / 10 = x / 10 ^ (j + 1) := by rw [Nat.div_div_eq_div_mul, Nat.pow_succ]
theorem group_all (V m : Nat) : V / 10 ^ m / 1000000000 = V / 10 ^ (m + 9) := by rw [Nat.div_div_eq_div_mul, Nat.pow_add]
theorem digit_at (V m j : Nat) : V / 10 ^ m / 10 ^ j = V / 10 ^ (m + j) := by rw [Nat.div_div_eq_div_mul, Nat.pow_add]
/-- While there are limbs left, there is room for digits. -/
theorem room {V r : Nat} (hV : V < top) (h : V / 10 ^ (9 * r) ≠ 0) : 9 * r + 9 ≤ 9873 := by
  obtain ⟨k, hk⟩ : ∃ k, k = 9865 := ⟨_, rfl⟩
  have h1 := top_le hk
  refine Nat.le_of_not_lt fun c => h (Nat.div_eq_of_lt ?_)
  have := Nat.pow_le_pow_right (show 0 < 10 by decide) (show k ≤ 9 * r by omega)
  omega
theorem drop_set {α : Type} (L : List α) (i : Nat) (x : α) (h : i < L.length) : (L.set i x).drop i = x :: L.drop (i + 1) := by
  rw [List.drop_eq_getElem_cons (by rw [List.length_set]; exact h), List.getElem_set_self, List.drop_set_of_lt (by omega)]
end Nt
end Go.Proofs.YtlmigbfpdbkkjaaDoor
