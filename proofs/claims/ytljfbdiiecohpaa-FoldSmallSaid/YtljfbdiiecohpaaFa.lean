/- Contracts of the letters of two bytes. -/
import Derived.Test.YtljfbdiiecohpaaProg
import Derived.Test.YtljfbdiiecohpaaFo
import Derived.WalkKit
import Derived.Below
namespace Go.Proofs.Ytljfbdiiecohpaa
open Go.RowKit

theorem Fo.ret_str {l m : List UInt8} {w : World} (h : l = m) : Ending.returned (.string ⟨l.toArray⟩) = .returned (.string ⟨m.toArray⟩) ∧ w = w := ⟨by rw [h], rfl⟩
theorem Fo.nat_of {b k : Nat} (h : (((b : Nat) : Int) == ((k : Nat) : Int)) = true) : b = k := by have := beq_iff_eq.1 h; omega
theorem Fo.nat_no {b k : Nat} (h : (((b : Nat) : Int) == ((k : Nat) : Int)) = false) : b ≠ k := by have := beq_eq_false_iff_ne.1 h; omega
set_option maxRecDepth 100000 in
set_option maxHeartbeats 3200000 in
theorem c5_any (b : Nat) (w : World) : Calls Try.prog 62 #[.int .u8 b] w fun e w' => e = .returned (.string ⟨(Fo.c5 b).toArray⟩) ∧ w' = w := by
  go_enter Try.func62, Try.ntmps62
  go_wp2
  all_goals go_ret
  all_goals first
    | (rename_i h; have h' := Fo.nat_of h; subst h'; exact ⟨rfl, rfl⟩)
    | (refine Fo.ret_str (l := []) (m := Fo.c5 b) ?_; simp only [beq_eq_false_iff_ne, ne_eq] at *; unfold Fo.c5; rw [if_neg (by omega), if_neg (by omega), if_neg (by omega)])
set_option maxRecDepth 100000 in
set_option maxHeartbeats 3200000 in
theorem c3_any (b : Nat) (w : World) : Calls Try.prog 61 #[.int .u8 b] w fun e w' => e = .returned (.string ⟨(Fo.c3 b).toArray⟩) ∧ w' = w := by
  go_enter Try.func61, Try.ntmps61
  go_wp2
  all_goals go_ret
  all_goals first
    | (rename_i h; have h' := Fo.nat_of h; subst h'; exact ⟨rfl, rfl⟩)
    | (refine Fo.ret_str (l := []) (m := Fo.c3 b) ?_; simp only [beq_eq_false_iff_ne, ne_eq] at *; unfold Fo.c3; repeat (rw [if_neg (by omega)]))
set_option maxRecDepth 100000 in
theorem letters_any (a b : UInt8) (w : World) : Calls Try.prog 54 #[.int .u8 a.toNat, .int .u8 b.toNat] w fun e w' => e = .returned (.string ⟨(Fo.two a b).toArray⟩) ∧ w' = w := by
  have C3 := c3_any b.toNat w
  have C5 := c5_any b.toNat w
  by_cases h1 : a.toNat = 195
  · have E : Fo.two a b = Fo.c3 b.toNat := by unfold Fo.two; rw [if_pos h1]
    rw [E, h1]
    clear E h1 C5
    go_enter Try.func54, Try.ntmps54
    go_wp2_with (go_at_call 61; with_reducible refine C3.mono ?_; rintro e w2 ⟨rfl, rfl⟩)
    go_ret
    exact ⟨rfl, rfl⟩
  · by_cases h2 : a.toNat = 197
    · have E : Fo.two a b = Fo.c5 b.toNat := by unfold Fo.two; rw [if_neg h1, if_pos h2]
      rw [E, h2]
      clear E h1 h2 C3
      go_enter Try.func54, Try.ntmps54
      go_wp2_with (go_at_call 62; with_reducible refine C5.mono ?_; rintro e w2 ⟨rfl, rfl⟩)
      go_ret
      exact ⟨rfl, rfl⟩
    · have E : Fo.two a b = [] := by unfold Fo.two; rw [if_neg h1, if_neg h2]
      have e1 : ((a.toNat : Int) == 195) = false := beq_eq_false_iff_ne.2 (by omega)
      have e2 : ((a.toNat : Int) == 197) = false := beq_eq_false_iff_ne.2 (by omega)
      rw [E]
      clear E h1 h2 C3 C5
      go_enter Try.func54, Try.ntmps54
      go_wp2
      go_ret
      exact ⟨rfl, rfl⟩
end Go.Proofs.Ytljfbdiiecohpaa
