/- Plain mathematics of digits and texts: nothing of any program stands here. -/
import Derived.Test.YtcnnfgigpjbcpaaDoorCal
namespace Go.Proofs.YtcnnfgigpjbcpaaDoor
namespace Txt
/-- A digit. -/
def isD (c : UInt8) : Bool := decide (48 ≤ (c.toNat : Int) ∧ (c.toNat : Int) ≤ 57)
/-- What digits are worth. -/
def val (l : List UInt8) : Int := l.foldl (fun n c => 10 * n + ((c.toNat : Int) - 48)) 0
/-- The number that digits are, or -1. -/
def num (l : List UInt8) : Int := if l.all isD = true then val l else -1
theorem isD_iff (c : UInt8) : isD c = true ↔ (48 ≤ (c.toNat : Int) ∧ (c.toNat : Int) ≤ 57) := by unfold isD; exact decide_eq_true_iff
theorem val_snoc (l : List UInt8) (c : UInt8) : val (l ++ [c]) = 10 * val l + ((c.toNat : Int) - 48) := by unfold val; rw [List.foldl_append]; rfl
theorem val_nil : val [] = 0 := rfl
theorem p10 {a b : Nat} (h : a ≤ b) : (10 : Int) ^ a ≤ 10 ^ b := by
  have := Nat.pow_le_pow_right (n := 10) (by omega) h
  have e : ∀ k : Nat, (10 : Int) ^ k = ((10 ^ k : Nat) : Int) := fun k => by simp [Int.natCast_pow]
  rw [e, e]; omega
theorem val_bd (k : Nat) : ∀ l : List UInt8, l.length = k → l.all isD = true → 0 ≤ val l ∧ val l < 10 ^ k := by
  induction k with
  | zero => intro l h _; rw [List.eq_nil_of_length_eq_zero h]; decide
  | succ k ih =>
    intro l h hd
    have hne : l ≠ [] := by rintro rfl; simp at h
    rw [← List.dropLast_concat_getLast hne] at hd ⊢
    rw [List.all_append, Bool.and_eq_true] at hd
    have hl : l.dropLast.length = k := by rw [List.length_dropLast]; omega
    have a := ih _ hl hd.1
    have b := (isD_iff (l.getLast hne)).1 (by simpa using hd.2)
    rw [val_snoc, Int.pow_succ]
    omega
theorem take_snoc (s : ByteArray) (k : Nat) (h : k < s.size) : s.data.toList.take (k + 1) = s.data.toList.take k ++ [s[k]] := by
  rw [List.take_succ_eq_append_getElem (by simpa using h)]; rfl
theorem num_bad (s : ByteArray) (k : Nat) (h : k < s.size) (hb : ¬ (48 ≤ (s[k].toNat : Int) ∧ (s[k].toNat : Int) ≤ 57)) : -1 = num s.data.toList := by
  unfold num
  rw [if_neg]
  intro ha
  have := List.all_eq_true.1 ha s[k] (by rw [show s[k] = s.data.toList[k]'(by simpa using h) from rfl]; exact List.getElem_mem _)
  exact hb ((isD_iff _).1 this)
theorem num_good (l : List UInt8) (h : l.all isD = true) : val l = num l := by unfold num; rw [if_pos h]
theorem num_ge (l : List UInt8) : -1 ≤ num l := by
  unfold num
  by_cases h : l.all isD = true
  · rw [if_pos h]; have := (val_bd _ l rfl h).1; omega
  · rw [if_neg h]; omega
theorem num_lt (l : List UInt8) (k : Nat) (hk : l.length ≤ k) : num l < 10 ^ k := by
  have p : (1 : Int) ≤ 10 ^ k := by have := Int.pow_pos (n := 10) (m := k) (by omega); omega
  unfold num
  by_cases h : l.all isD = true
  · rw [if_pos h]
    have a := (val_bd _ l rfl h).2
    have : (10 : Int) ^ l.length ≤ 10 ^ k := p10 hk
    omega
  · rw [if_neg h]; omega
end Txt
end Go.Proofs.YtcnnfgigpjbcpaaDoor
