/- EditTells' walk. -/
import Derived.Test.YtalldnnegofdkaaTl7
import Derived.Test.YtalldnnegofdkaaEy
namespace Go.Proofs.Ytalldnnegofdkaa
open Go.RowKit Go.Shelf

set_option maxRecDepth 100000 in
set_option maxHeartbeats 1600000 in
theorem walk_editTells (w : World) (a : ByteArray) (_ha : a.size ≤ maxLen) (b : ByteArray) (_hb : b.size ≤ maxLen) (c : Ed.Cs) (most : Int) (_h0 : -9223372036854775808 ≤ most) (_h9 : most ≤ 9223372036854775807) :
    Calls Try.prog 3 #[.string a, .string b, cv c, .int .i64 most] w fun e w' => e = .returned (.bool true) ∧ Below w.heap.size w w' := by
  have AW := Lib.hid awake_any
  have TE : Hid (∀ W, Calls Try.prog 12 #[.string a, .string b, cv c, .int .i64 most] W fun e w' => e = .returned (.bool true) ∧ Below W.heap.size W w') := fun W => tells_any a.data.toList b.data.toList c most W
  have B0 := Lib.hid (show Below w.heap.size w (w.alloc (.cells #[.int .i64 c.ins, .int .i64 c.del, .int .i64 c.chg, .int .i64 c.swp] 23)) from (Below.refl _ _).alloc (Nat.le_refl _) _)
  by_cases h1 : 130 < a.size
  · go_enter Try.func3, Try.ntmps3
    go_wp2_with (go_at_call 11; (with_reducible refine (AW.out _).mono ?_); rintro e w2 ⟨rfl, b2⟩; have B1 := Lib.hid (B0.out.trans (b2.mono B0.out.size)); clear b2)
    go_ret
    exact ⟨rfl, B1.out⟩
  · by_cases h2 : 130 < b.size
    · go_enter Try.func3, Try.ntmps3
      go_wp2_with (go_at_call 11; (with_reducible refine (AW.out _).mono ?_); rintro e w2 ⟨rfl, b2⟩; have B1 := Lib.hid (B0.out.trans (b2.mono B0.out.size)); clear b2)
      go_ret
      exact ⟨rfl, B1.out⟩
    · go_enter Try.func3, Try.ntmps3
      go_wp2_with (first
        | (go_at_call 11; (with_reducible refine (AW.out _).mono ?_); rintro e w2 ⟨rfl, b2⟩; have B1 := Lib.hid (B0.out.trans (b2.mono B0.out.size)); clear b2)
        | (go_at_call 12; (with_reducible refine (TE.out _).mono ?_); rintro e w1 ⟨rfl, b1⟩; have B0 := Lib.hid (B0.out.trans (b1.mono B0.out.size)); clear b1))
      go_ret
      exact ⟨rfl, B1.out⟩
end Go.Proofs.Ytalldnnegofdkaa
