/- Contracts of the words' functions that nat calls. -/
import Derived.Test.YtjfopggpohakkaaNa
namespace Go.Proofs.Ytjfopggpohakkaa
open Go.RowKit

theorem of_nat32 (a : Nat) (ha : a < 4294967296) : (BitVec.ofInt 32 (a : Int)).toNat = a := by
  rw [BitVec.ofInt_natCast, BitVec.toNat_ofNat]; exact Nat.mod_eq_of_lt (by omega)
theorem wrap32_nat (a : Nat) (ha : a < 4294967296) : IntKind.u32.wrap (a : Int) = (a : Int) := by
  rw [show IntKind.u32.wrap (a : Int) = (a : Int) % 4294967296 from rfl]; omega
theorem and32 (a b : Nat) (ha : a < 4294967296) (hb : b < 4294967296) : bits .and .u32 (a : Int) (b : Int) = ((a &&& b : Nat) : Int) := by
  have hx : a &&& b < 2 ^ 32 := Nat.and_lt_two_pow _ (by omega)
  show IntKind.u32.wrap ((BitVec.ofInt 32 (a : Int) &&& BitVec.ofInt 32 (b : Int)).toNat : Int) = _
  rw [BitVec.toNat_and, of_nat32 a ha, of_nat32 b hb, wrap32_nat _ (by omega)]
theorem or32 (a b : Nat) (ha : a < 4294967296) (hb : b < 4294967296) : bits .or .u32 (a : Int) (b : Int) = ((a ||| b : Nat) : Int) := by
  have hx : a ||| b < 2 ^ 32 := Nat.or_lt_two_pow (by omega) (by omega)
  show IntKind.u32.wrap ((BitVec.ofInt 32 (a : Int) ||| BitVec.ofInt 32 (b : Int)).toNat : Int) = _
  rw [BitVec.toNat_or, of_nat32 a ha, of_nat32 b hb, wrap32_nat _ (by omega)]
theorem xor32 (a b : Nat) (ha : a < 4294967296) (hb : b < 4294967296) : bits .xor .u32 (a : Int) (b : Int) = ((a ^^^ b : Nat) : Int) := by
  have hx : a ^^^ b < 2 ^ 32 := Nat.xor_lt_two_pow (by omega) (by omega)
  show IntKind.u32.wrap ((BitVec.ofInt 32 (a : Int) ^^^ BitVec.ofInt 32 (b : Int)).toNat : Int) = _
  rw [BitVec.toNat_xor, of_nat32 a ha, of_nat32 b hb, wrap32_nat _ (by omega)]
theorem top_bit (n : Nat) (h : n < 4294967296) : n.testBit 31 = decide (2147483648 ≤ n) := by
  rw [Nat.testBit_eq_decide_div_mod_eq]
  by_cases c : 2147483648 ≤ n
  · rw [decide_eq_true c]; exact decide_eq_true (by omega)
  · rw [decide_eq_false c]; exact decide_eq_false (by omega)
theorem top_half (n : Nat) (h : n < 4294967296) : n / 2147483648 = (n.testBit 31).toNat := by
  rw [top_bit n h]
  by_cases c : 2147483648 ≤ n
  · rw [decide_eq_true c]; show _ = 1; omega
  · rw [decide_eq_false c]; show _ = 0; omega
/-- What Sub32 borrows. -/
theorem borrow (x y k d : Nat) (hx : x < 4294967296) (hy : y < 4294967296) (hk : k ≤ 1) (hd : d = (x + 4294967296 - y - k) % 4294967296) :
    ((4294967295 ^^^ x) &&& y ||| (4294967295 ^^^ (x ^^^ y)) &&& d) / 2147483648 = if x < y + k then 1 else 0 := by
  have m : (4294967295 : Nat) < 2 ^ 32 := by decide
  have b1 : 4294967295 ^^^ x < 2 ^ 32 := Nat.xor_lt_two_pow m (by omega)
  have b2 : x ^^^ y < 2 ^ 32 := Nat.xor_lt_two_pow (by omega) (by omega)
  have b3 : 4294967295 ^^^ (x ^^^ y) < 2 ^ 32 := Nat.xor_lt_two_pow m b2
  have b4 : (4294967295 ^^^ x) &&& y < 2 ^ 32 := Nat.and_lt_two_pow _ (by omega)
  have hd' : d < 4294967296 := by rw [hd]; exact Nat.mod_lt _ (by decide)
  have b5 : (4294967295 ^^^ (x ^^^ y)) &&& d < 2 ^ 32 := Nat.and_lt_two_pow _ (by omega)
  have b6 := Nat.or_lt_two_pow b4 b5
  rw [top_half _ (by omega), Nat.testBit_or, Nat.testBit_and, Nat.testBit_and, Nat.testBit_xor, Nat.testBit_xor, Nat.testBit_xor, top_bit x hx, top_bit y hy, top_bit d hd', top_bit 4294967295 (by decide)]
  by_cases c1 : 2147483648 ≤ x <;> by_cases c2 : 2147483648 ≤ y <;> by_cases c3 : 2147483648 ≤ d <;> by_cases c4 : x < y + k
  all_goals first
    | (exfalso; omega; done)
    | (simp [c1, c2, c3, c4]; done)
theorem ret_kk {k k' : IntKind} {a b c d : Int} (h : a = b) (h' : c = d) : Ending.returned (.tuple #[.int k a, .int k' c]) = .returned (.tuple #[.int k b, .int k' d]) := by rw [h, h']
set_option maxHeartbeats 400000 in
theorem sub32_core (x y k : Nat) (d b : Int) (w : World) (hd : ((x : Int) - y - k) % 4294967296 = d)
    (hb : bits BinOp.or IntKind.u32 (bits BinOp.and IntKind.u32 (bits BinOp.xor IntKind.u32 IntKind.u32.max ↑x) ↑y) (bits BinOp.and IntKind.u32 (bits BinOp.xor IntKind.u32 IntKind.u32.max (bits BinOp.xor IntKind.u32 ↑x ↑y)) (((x : Int) - y - k) % 4294967296)) / 2147483648 = b) : Calls Try.prog 122 #[.int .u32 (x : Nat), .int .u32 (y : Nat), .int .u32 (k : Nat)] w fun e w' => e = .returned (.tuple #[.int .u32 d, .int .u32 b]) ∧ w = w' := by
  have sg : IntKind.u32.signed = false := rfl
  have hd2 : (((x : Int) - y) % 4294967296 - k) % 4294967296 = d := by rw [← hd]; omega
  have HD := Lib.hid hd
  have HE := Lib.hid hd2
  have HB := Lib.hid hb
  clear hd hb hd2
  go_enter Try.func122, Try.ntmps122
  go_wp2
  go_ret2
  exact ⟨ret_kk (by first | exact HE.out | exact HD.out) HB.out, rfl⟩
theorem sub32_any (x y k : Nat) (w : World) (hx : x < Nt.B) (hy : y < Nt.B) (hk : k ≤ 1) : Calls Try.prog 122 #[.int .u32 (x : Nat), .int .u32 (y : Nat), .int .u32 (k : Nat)] w fun e w' => e = .returned (.tuple #[.int .u32 (((x + Nt.B - y - k) % Nt.B : Nat) : Int), .int .u32 ((if x < y + k then 1 else 0 : Nat) : Int)]) ∧ w = w' := by
  rw [B_is] at *
  obtain ⟨d, hd⟩ : ∃ d, d = (x + 4294967296 - y - k) % 4294967296 := ⟨_, rfl⟩
  have e1 : ((x : Int) - y - k) % 4294967296 = (d : Nat) := by rw [hd]; omega
  have hd' : d < 4294967296 := by rw [hd]; exact Nat.mod_lt _ (by decide)
  have m : (4294967295 : Nat) < 2 ^ 32 := by decide
  have b1 : 4294967295 ^^^ x < 2 ^ 32 := Nat.xor_lt_two_pow m (by omega)
  have b2 : x ^^^ y < 2 ^ 32 := Nat.xor_lt_two_pow (by omega) (by omega)
  have b3 : 4294967295 ^^^ (x ^^^ y) < 2 ^ 32 := Nat.xor_lt_two_pow m b2
  have b4 : (4294967295 ^^^ x) &&& y < 2 ^ 32 := Nat.and_lt_two_pow _ (by omega)
  have b5 : (4294967295 ^^^ (x ^^^ y)) &&& d < 2 ^ 32 := Nat.and_lt_two_pow _ (by omega)
  have mx : IntKind.u32.max = ((4294967295 : Nat) : Int) := rfl
  refine sub32_core x y k _ _ w (by rw [e1, hd]) ?_
  rw [e1, mx, xor32 _ x (by omega) hx, and32 _ y (by omega) hy, xor32 x y hx hy, xor32 _ (x ^^^ y) (by omega) (by omega), and32 _ d (by omega) hd', or32 _ _ (by omega) (by omega), ← borrow x y k d hx hy hk hd, Int.natCast_ediv]
  rfl
theorem or_join (x y s : Nat) (hx : x < 4294967296) (hy : y < 4294967296) (hs : s = x * 4294967296 + y) : bits BinOp.or IntKind.u64 ((x : Int) * 4294967296) (y : Int) = (s : Int) := by
  have e := bits_or_u64_nat (x * 4294967296) y (by omega) (by omega)
  have f := Nat.two_pow_add_eq_or_of_lt (i := 32) (b := y) (by omega) x
  rw [show x * 4294967296 ||| y = s by rw [hs, Nat.mul_comm x]; exact f.symm] at e
  rw [← e, Int.natCast_mul]; rfl
set_option maxHeartbeats 400000 in
theorem div32_any (x y d q r : Nat) (w : World) (hx : x < d) (hy : y < Nt.B) (hd : d < Nt.B) (hq : q = (x * Nt.B + y) / d) (hr : r = (x * Nt.B + y) % d) : Calls Try.prog 120 #[.int .u32 (x : Nat), .int .u32 (y : Nat), .int .u32 (d : Nat)] w fun e w' => e = .returned (.tuple #[.int .u32 (q : Nat), .int .u32 (r : Nat)]) ∧ Qt w w' := by
  rw [B_is] at *
  have W1 : IntKind.u64.wrap ((x : Nat) : Int) = (x : Int) := u64_in x (by omega)
  have W2 : IntKind.u64.wrap ((d : Nat) : Int) = (d : Int) := u64_in d (by omega)
  obtain ⟨s, hs⟩ : ∃ s, s = x * 4294967296 + y := ⟨_, rfl⟩
  have J := or_join x y s (by omega) hy hs
  have D0 : ((d : Int) == 0) = false := by rw [beq_eq_false_iff_ne]; omega
  have D1 : d ≠ 0 := by omega
  have D2 : ¬ d ≤ x := by omega
  have sb : s < d * 4294967296 := by
    have := Nat.mul_le_mul_right 4294967296 (show x + 1 ≤ d by omega)
    omega
  have sq : s / d < 4294967296 := Nat.div_lt_of_lt_mul sb
  have rq : s % d < d := Nat.mod_lt _ (by omega)
  have F1 : Hid (IntKind.u64.wrap ((s : Int) / (d : Int)) % 4294967296 = (q : Int)) := by
    show _ = _
    rw [hq, ← hs, show IntKind.u64.wrap ((s : Int) / (d : Int)) = ((s : Int) / (d : Int)) % 18446744073709551616 from rfl, ← Int.natCast_ediv]
    clear J W1 W2 D0 hq
    generalize s / d = u at sq ⊢
    omega
  have F2 : Hid ((s : Int) % (d : Int) % 4294967296 = (r : Int)) := by
    show _ = _
    rw [hr, ← hs, ← Int.natCast_emod]
    clear J W1 W2 D0 hr
    generalize s % d = u at rq ⊢
    omega
  clear hs hq hr sb sq rq
  go_enter Try.func120, Try.ntmps120
  go_wp2
  go_region
  go_wp2
  go_ret2
  exact ⟨ret_kk F1.out F2.out, ⟨1, rfl⟩⟩
end Go.Proofs.Ytjfopggpohakkaa
