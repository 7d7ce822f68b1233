/- Contracts of the lengths of words in bits. -/
import Derived.Test.YtjfopggpohakkaaNm
import Derived.Test.YtjfopggpohakkaaShelf
namespace Go.Proofs.Ytjfopggpohakkaa
open Go.RowKit

theorem len_aux : ∀ (f x : Nat), x < 2 ^ f → x < 2 ^ Lib.bitLenAux f x ∧ Lib.bitLenAux f x ≤ f ∧ (x ≠ 0 → 1 ≤ Lib.bitLenAux f x) := by
  intro f
  induction f with
  | zero => intro x h; exact ⟨h, Nat.le_refl _, fun c => by rw [Nat.pow_zero] at h; omega⟩
  | succ f ih =>
    intro x h
    by_cases c : x = 0
    · subst c
      have e : Lib.bitLenAux (f + 1) 0 = 0 := by unfold Lib.bitLenAux; rw [if_pos rfl]
      rw [e]; exact ⟨by decide, Nat.zero_le _, fun c => absurd rfl c⟩
    · have e : Lib.bitLenAux (f + 1) x = 1 + Lib.bitLenAux f (x / 2) := by rw [Lib.bitLenAux, if_neg c]
      rw [Nat.pow_succ] at h
      obtain ⟨i1, i2, _⟩ := ih (x / 2) (by omega)
      rw [e, Nat.pow_add, Nat.pow_one]
      exact ⟨by omega, by omega, fun _ => by omega⟩
theorem len_64 (x : Nat) (h : x < 18446744073709551616) : x < 2 ^ Lib.bitLen x ∧ Lib.bitLen x ≤ 64 ∧ (x ≠ 0 → 1 ≤ Lib.bitLen x) := len_aux 64 x h
theorem len_32 (x : Nat) (h : x < 4294967296) : x < 2 ^ Lib.bitLen x ∧ Lib.bitLen x ≤ 32 ∧ (x ≠ 0 → 1 ≤ Lib.bitLen x) := by
  have e : Lib.bitLen x = Lib.bitLenAux 32 x := Lib.bitLenAux_fuel 32 x h 64 (by decide)
  rw [e]; exact len_aux 32 x h
/-- How far a limb can be moved up. -/
theorem lz_any (x : Nat) (w : World) (hx : x < Nt.B) (h0 : x ≠ 0) : ∃ z : Nat, z ≤ 31 ∧ (x + 1) * 2 ^ z ≤ Nt.B ∧ Calls Try.prog 110 #[.int .u32 (x : Nat)] w fun e w' => e = .returned (.int .i64 (z : Nat)) ∧ w = w' := by
  rw [B_is] at *
  obtain ⟨h1, h2, h3⟩ := len_32 x hx
  have h4 := h3 h0
  refine ⟨32 - Lib.bitLen x, by omega, ?_, ?_⟩
  · have e : 2 ^ Lib.bitLen x * 2 ^ (32 - Lib.bitLen x) = 4294967296 := by rw [← Nat.pow_add, show Lib.bitLen x + (32 - Lib.bitLen x) = 32 by omega]
    have := Nat.mul_le_mul_right (2 ^ (32 - Lib.bitLen x)) (show x + 1 ≤ 2 ^ Lib.bitLen x from h1)
    rw [e] at this; exact this
  · refine (Try.bits_LeadingZeros32 (x : Int) w (Int.natCast_nonneg _) (by omega)).mono ?_
    rintro e w' ⟨rfl, rfl⟩
    rw [Int.toNat_natCast]
    exact ⟨ret_int (by omega), rfl⟩
/-- The length of a word. -/
theorem blen_any (x : Nat) (w : World) (hx : x < 9223372036854775808) : ∃ k : Nat, k ≤ 64 ∧ x < 2 ^ k ∧ Calls Try.prog 64 #[.int .u64 (x : Nat)] w fun e w' => e = .returned (.int .i64 (k : Nat)) ∧ w = w' := by
  obtain ⟨h1, h2, _⟩ := len_64 x (by omega)
  refine ⟨Lib.bitLen x, h2, h1, ?_⟩
  refine (Try.bits_Len (x : Int) w (Int.natCast_nonneg _) (by omega)).mono ?_
  rintro e w' ⟨rfl, rfl⟩
  rw [Int.toNat_natCast]
  exact ⟨rfl, rfl⟩
end Go.Proofs.Ytjfopggpohakkaa
