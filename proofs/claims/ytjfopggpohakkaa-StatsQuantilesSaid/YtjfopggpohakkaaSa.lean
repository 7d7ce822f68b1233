/- Contracts of the helpers of stats: power, product, quotient. -/
import Derived.Test.YtjfopggpohakkaaNu
import Derived.Test.YtjfopggpohakkaaLow
namespace Go.Proofs.Ytjfopggpohakkaa
open Go.RowKit

/-- A slice value that reads as a number. -/
def Dg (w : World) (v : Value) (x : Nat) : Prop := Lm w v (Nt.dig x)
theorem Dg.below {w w' : World} {v : Value} {x : Nat} (h : Dg w v x) (hb : Below w.heap.size w w') : Dg w' v x := Lm.below h hb
theorem Dg.drew {w : World} {v : Value} {x : Nat} (h : Dg w v x) : Dg w.drew v x := h.below (Below.drew (Below.refl _ _))
/-- A call that hands back a number. -/
def Num (x : Nat) (w : World) (e : Ending) (w' : World) : Prop := ∃ a n c, e = .returned (.slice a n c) ∧ Dg w' (.slice a n c) x ∧ Below w.heap.size w w'
theorem Num.out {x : Nat} {w w' : World} {e : Ending} (h : Num x w e w') : ∃ a n c, e = .returned (.slice a n c) ∧ Dg w' (.slice a n c) x ∧ Below w.heap.size w w' := h
theorem numR_ok {x : Nat} (h : x < Nt.top) : Nt.numR x = (Nt.dig x, 0) := by unfold Nt.numR; rw [if_pos h]
theorem mulR_dig {x y : Nat} (hx : x < Nt.top) (hy : y < Nt.top) (h : x * y < Nt.top) : Nt.mulR (Nt.dig x) (Nt.dig y) = (Nt.dig (x * y), 0) := by rw [mul_dig hx hy, numR_ok h]
theorem powR_dig {x : Nat} {n : Nat} (hx : x < Nt.top) (h : x ^ n < Nt.top) : Nt.powR (Nt.dig x) (n : Int) = (Nt.dig (x ^ n), 0) := by
  unfold Nt.powR
  rw [if_pos ⟨Nt.rg_yes hx, by omega⟩, Nt.val_dig, Int.toNat_natCast, numR_ok h]
theorem addR_dig {x y : Nat} (h : x + y < Nt.top) : Nt.addR (Nt.dig x) (Nt.dig y) = (Nt.dig (x + y), 0) := by
  rw [Nt.add_ok (Nt.rg_yes (by omega)) (Nt.rg_yes (by omega)) (by rw [Nt.val_dig, Nt.val_dig]; exact h), Nt.val_dig, Nt.val_dig]
theorem top_word : 18446744073709551616 < Nt.top := by
  obtain ⟨k, hk⟩ : ∃ k, k = 1024 := ⟨_, rfl⟩
  rw [Nt.top_pow hk]
  refine Nat.lt_of_lt_of_le (show 18446744073709551616 < Nt.B ^ 3 by decide) ?_
  exact Nat.pow_le_pow_right Nt.B_pos (by omega)
set_option maxHeartbeats 800000 in
theorem power_any (a n : Nat) (w : World) (ha : a < 9223372036854775808) (hn : n < 9223372036854775808) (h : a ^ n < Nt.top) :
    Calls Try.prog 79 #[.int .i64 a, .int .i64 n] w (Num (a ^ n) w) := by
  have tw := top_word
  have O := Lib.hid (of3_any (a : Int) w (by omega) (by omega))
  rw [Int.toNat_natCast] at O
  have P := Lib.hid (fun v w' (h' : Lm w' v (Nt.dig a)) => by
    have := pow3_any v (Nt.dig a) (n : Int) w' h' (by omega)
    rw [powR_dig (by omega) h] at this; exact this)
  clear tw
  go_enter Try.func79, Try.ntmps79
  go_wp2_with (first
    | (go_at_call 34; with_reducible refine O.out.mono ?_; rintro e w1 ⟨a1, k1, c1, rfl, L1, b1⟩)
    | (go_at_call 33; with_reducible refine (P.out _ _ L1).mono ?_; rintro e w2 ⟨a2, k2, c2, rfl, L2, b2⟩))
  go_ret
  exact ⟨_, _, _, rfl, L2, b1.trans (b2.mono b1.size)⟩
set_option maxHeartbeats 800000 in
theorem product_any (f x : Nat) (v : Value) (w : World) (hv : Dg w v x) (hf : f < 9223372036854775808) (hx : x < Nt.top) (h : f * x < Nt.top) :
    Calls Try.prog 78 #[.int .i64 f, v] w (Num (f * x) w) := by
  have tw := top_word
  have O := Lib.hid (of3_any (f : Int) w (by omega) (by omega))
  rw [Int.toNat_natCast] at O
  have P := Lib.hid (fun v u w' (h' : Lm w' v (Nt.dig f)) (h2 : Dg w' u x) => by
    have := mul3_any v u (Nt.dig f) (Nt.dig x) w' h' h2
    rw [mulR_dig (by omega) hx h] at this; exact this)
  clear tw
  have HV := Lib.hid hv
  go_enter Try.func78, Try.ntmps78
  go_wp2_with (first
    | (go_at_call 34; with_reducible refine O.out.mono ?_; rintro e w1 ⟨a1, k1, c1, rfl, L1, b1⟩; have D1 := Dg.below HV.out b1)
    | (go_at_call 35; with_reducible refine (P.out _ _ _ L1 D1).mono ?_; rintro e w2 ⟨a2, k2, c2, rfl, L2, b2⟩))
  go_ret
  exact ⟨_, _, _, rfl, L2, b1.trans (b2.mono b1.size)⟩
set_option maxHeartbeats 800000 in
theorem quotient_any (d x : Nat) (v : Value) (w : World) (hv : Dg w v x) (hd : d < 9223372036854775808) (h0 : 0 < d) (hx : x < Nt.top) :
    Calls Try.prog 94 #[v, .int .i64 d] w (Num (x / d) w) := by
  have tw := top_word
  have O := Lib.hid (of3_any (d : Int) w (by omega) (by omega))
  rw [Int.toNat_natCast] at O
  have P := Lib.hid (fun v u w' (h' : Dg w' v x) (h2 : Lm w' u (Nt.dig d)) => by
    have := div3_any v u (Nt.dig x) (Nt.dig d) w' h' h2
    have rd := Nt.rg_yes (show d < Nt.top by omega)
    have ne : Nt.dig d ≠ [] := by
      intro c
      have := (Nt.val_zero (Nt.fit_dig d) rd).2 c
      rw [Nt.val_dig] at this; omega
    obtain ⟨e1, _, e3⟩ := Nt.div_ok (Nt.rg_yes hx) rd ne
    rw [Nt.val_dig, Nt.val_dig] at e1
    refine (this).mono (R' := fun e w2 => ∃ a n c a' n' c', e = .returned (.tuple #[.slice a n c, .slice a' n' c', .int .i64 0]) ∧ Lm w2 (.slice a n c) (Nt.dig (x / d)) ∧ Below w'.heap.size w' w2) ?_
    rintro e w2 ⟨a, n, c, a', n', c', rfl, l1, _, b⟩
    rw [e1] at l1
    rw [e3]
    exact ⟨a, n, c, a', n', c', rfl, l1, b⟩)
  clear tw
  have HV := Lib.hid hv
  go_enter Try.func94, Try.ntmps94
  go_wp2_with (first
    | (go_at_call 34; with_reducible refine O.out.mono ?_; rintro e w1 ⟨a1, k1, c1, rfl, L1, b1⟩; have D1 := Dg.below HV.out b1)
    | (go_at_call 99; with_reducible refine (P.out _ _ _ D1 L1).mono ?_; rintro e w2 ⟨a2, k2, c2, a3, k3, c3, rfl, L2, b2⟩))
  go_ret
  exact ⟨_, _, _, rfl, L2, b1.trans (b2.mono b1.size)⟩
end Go.Proofs.Ytjfopggpohakkaa
