/- What the statements of stats share: numbers picked, comparisons, whether a chance exceeds a risk. -/
import Derived.Test.YtjfopggpohakkaaSm
import Derived.Test.YtjfopggpohakkaaPi
namespace Go.Proofs.Ytjfopggpohakkaa
open Go.RowKit

theorem share4 (n : Int) (w : World) : Calls Try.prog 20 #[.int .i64 n] w fun e w' => e = .returned (.int .i64 (n % 10001)) ∧ w = w' := by
  have P := Lib.hid (pick_any n 10001 w (by omega) (by omega))
  go_enter Try.func20, Try.ntmps20
  go_wp2_with (go_at_call 19; with_reducible refine P.out.mono ?_; rintro e w' ⟨rfl, rfl⟩)
  go_ret
  exact ⟨rfl, rfl⟩
theorem risk4 (n : Int) (w : World) : Calls Try.prog 21 #[.int .i64 n] w fun e w' => e = .returned (.int .i64 (1 + n % 2000)) ∧ w = w' := by
  have P := Lib.hid (pick_any n 2000 w (by omega) (by omega))
  obtain ⟨r, hr⟩ : ∃ r, r = n % 2000 := ⟨_, rfl⟩
  have h1 : 0 ≤ r := by omega
  have h2 : r ≤ 1999 := by omega
  rw [← hr] at P ⊢
  clear hr
  go_enter Try.func21, Try.ntmps21
  go_wp2_with (go_at_call 19; with_reducible refine P.out.mono ?_; rintro e w' ⟨rfl, rfl⟩)
  go_ret
  exact ⟨rfl, rfl⟩
theorem trials4 (n k m : Int) (w : World) (hm : 0 ≤ m) (hm2 : m ≤ 1000) : Calls Try.prog 27 #[.int .i64 n, .int .i64 k, .int .i64 m] w fun e w' => e = .returned (.tuple #[.int .i64 (n % (m + 1)), .int .i64 (k % (n % (m + 1) + 1))]) ∧ w = w' := by
  have l1 := Int.emod_nonneg n (show m + 1 ≠ 0 by omega)
  have l2 := Int.emod_lt_of_pos n (show 0 < m + 1 by omega)
  have P := Lib.hid (pick_any n (m + 1) w (by omega) (by omega))
  have P2 := Lib.hid (pick_any k (n % (m + 1) + 1) w (by omega) (by omega))
  obtain ⟨r, hr⟩ : ∃ r, r = n % (m + 1) := ⟨_, rfl⟩
  rw [← hr] at P P2 l1 l2 ⊢
  clear hr
  go_enter Try.func27, Try.ntmps27
  go_wp2_with (first
    | (go_at_call 19; with_reducible refine P.out.mono ?_; rintro e w' ⟨rfl, rfl⟩)
    | (go_at_call 19; with_reducible refine P2.out.mono ?_; rintro e w' ⟨rfl, rfl⟩))
  go_ret2
  exact ⟨rfl, rfl⟩
theorem dig_len {x : Nat} (h : x < Nt.top) : (Nt.dig x).length ≤ 1024 := (Nt.dig_len x).2 h
theorem same4 (v u : Value) (x : Nat) (l : List Nat) (w : World) (h : Dg w v x) (h' : Lm w u l) (hx : x < Nt.top) :
    Calls Try.prog 30 #[v, u] w fun e w' => e = .returned (.bool (decide (Nt.dig x = l))) ∧ Below w.heap.size w w' := by
  have S := Lib.hid (same_any v u _ l w h h' (by have := dig_len hx; omega))
  clear h h'
  go_enter Try.func30, Try.ntmps30
  go_wp2_with (go_at_call 63; with_reducible refine S.out.mono ?_; rintro e w' ⟨rfl, q⟩)
  go_ret
  exact ⟨rfl, q.bl⟩
theorem dig_inj {x y : Nat} : (Nt.dig x = Nt.dig y) ↔ x = y := ⟨fun h => by have := congrArg Nt.val h; rw [Nt.val_dig, Nt.val_dig] at this; exact this, fun h => by rw [h]⟩
theorem same_dig (v u : Value) (x y : Nat) (w : World) (h : Dg w v x) (h' : Dg w u y) (hx : x < Nt.top) :
    Calls Try.prog 30 #[v, u] w fun e w' => e = .returned (.bool (decide (x = y))) ∧ Below w.heap.size w w' := by
  have := same4 v u x _ w h h' hx
  rw [show decide (Nt.dig x = Nt.dig y) = decide (x = y) from decide_eq_decide.2 dig_inj] at this
  exact this
set_option maxHeartbeats 800000 in
theorem all4 (n : Nat) (w : World) (hn : n ≤ 500) : Calls Try.prog 31 #[.int .i64 n] w (Num (10000 ^ n) w) := by
  have O : Hid (∀ w', Calls Try.prog 34 #[.int .u64 10000] w' fun e w'' => ∃ a k c, e = .returned (.slice a k c) ∧ Lm w'' (.slice a k c) (Nt.dig 10000) ∧ Below w'.heap.size w' w'') := fun w' => of3_any 10000 w' (by omega) (by omega)
  have t1 : 10000 ^ n < Nt.top := by have := top_W (x := n) (y := 1) hn (by omega); omega
  have P := Lib.hid (fun v w' (h : Lm w' v (Nt.dig 10000)) => by
    have := pow3_any v _ (n : Int) w' h (by omega)
    rw [powR_dig (by have := top_word; omega) t1] at this; exact this)
  clear t1
  go_enter Try.func31, Try.ntmps31
  go_wp2_with (first
    | (go_at_call 34; with_reducible refine (O.out _).mono ?_; rintro e w1 ⟨a1, k1, c1, rfl, L1, b1⟩)
    | (go_at_call 33; with_reducible refine (P.out _ _ L1).mono ?_; rintro e w2 ⟨a2, k2, c2, rfl, L2, b2⟩))
  go_ret
  exact ⟨_, _, _, rfl, L2, b1.trans (b2.mono b1.size)⟩
theorem mul_dg (v u : Value) (x y : Nat) (w : World) (h : Dg w v x) (h' : Dg w u y) (hx : x < Nt.top) (hy : y < Nt.top) (hxy : x * y < Nt.top) :
    Calls Try.prog 35 #[v, u] w fun e w' => ∃ a n c, e = .returned (.tuple #[.slice a n c, .int .i64 0]) ∧ Dg w' (.slice a n c) (x * y) ∧ Below w.heap.size w w' := by
  have := mul3_any v u _ _ w h h'
  rw [mulR_dig hx hy hxy] at this; exact this
theorem of_dg (x : Nat) (w : World) (hx : x < 18446744073709551616) : Calls Try.prog 34 #[.int .u64 x] w fun e w' => ∃ a k c, e = .returned (.slice a k c) ∧ Dg w' (.slice a k c) x ∧ Below w.heap.size w w' := by
  have := of3_any (x : Int) w (by omega) (by omega)
  rw [Int.toNat_natCast] at this; exact this
end Go.Proofs.Ytjfopggpohakkaa
