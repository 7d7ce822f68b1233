/- The statements' own test of a risk. -/
import Derived.Test.YtjfopggpohakkaaSn
namespace Go.Proofs.Ytjfopggpohakkaa
open Go.RowKit

set_option maxRecDepth 100000 in
set_option maxHeartbeats 1600000 in
theorem exceeds4 (v : Value) (n r x : Nat) (w : World) (h : Dg w v x) (hn : n ≤ 500) (hr : r ≤ 2000) (hx : x * 10000 < Nt.top) :
    Calls Try.prog 26 #[v, .int .i64 n, .int .i64 r] w fun e w' => e = .returned (.bool (Bn.ex n r x)) ∧ Below w.heap.size w w' := by
  have tw := top_word
  have x1 : x < Nt.top := by omega
  have t1 : 10000 ^ n < Nt.top := by have := top_W (x := n) (y := 1) hn (by omega); omega
  have t2 : 10000 ^ n * r < Nt.top := by rw [Nat.mul_comm]; exact top_W hn (by omega)
  have O1 : Hid (∀ w', Calls Try.prog 34 #[.int .u64 10000] w' fun e w'' => ∃ a k c, e = .returned (.slice a k c) ∧ Dg w'' (.slice a k c) 10000 ∧ Below w'.heap.size w' w'') := fun w' => of_dg 10000 w' (by omega)
  have O2 := Lib.hid (fun w' => of_dg r w' (by omega))
  have AL := Lib.hid (fun w' => all4 n w' hn)
  have M1 := Lib.hid (fun u w' (h1 : Dg w' v x) (h2 : Dg w' u 10000) => mul_dg v u _ _ w' h1 h2 x1 (by omega) hx)
  have M2 := Lib.hid (fun u u' w' (h1 : Dg w' u (10000 ^ n)) (h2 : Dg w' u' r) => mul_dg u u' _ _ w' h1 h2 t1 (by omega) t2)
  have CM := Lib.hid (fun u u' w' (h1 : Dg w' u (x * 10000)) (h2 : Dg w' u' (10000 ^ n * r)) => cmp_dig u u' _ _ w' h1 h2 hx t2)
  have O := Lib.hid (ord_gt (x * 10000) (10000 ^ n * r))
  have EX : Hid (Bn.ex n r x = decide (10000 ^ n * r < x * 10000)) := by
    show _ = _
    unfold Bn.ex Bn.W
    rw [Nat.mul_comm r, Nat.mul_comm 10000 x]
  obtain ⟨o, ho⟩ : ∃ o, o = Nt.ord (x * 10000) (10000 ^ n * r) := ⟨_, rfl⟩
  rw [← ho] at CM O
  have HV := Lib.hid h
  rw [EX.out]
  clear h tw x1 t1 t2 hx ho EX
  go_enter Try.func26, Try.ntmps26
  go_wp2_with (first
    | (go_at_call 34; with_reducible refine (O1.out _).mono ?_; rintro e w1 ⟨a1, k1, c1, rfl, L1, b1⟩; have V1 := Dg.below HV.out b1)
    | (go_at_call 35; with_reducible refine (M1.out _ _ V1 L1).mono ?_; rintro e w2 ⟨a2, k2, c2, rfl, L2, b2⟩; have B2 := b1.trans (b2.mono b1.size))
    | (go_at_call 31; with_reducible refine (AL.out _).mono ?_; intro e w3 hq; obtain ⟨a3, k3, c3, rfl, L3, b3⟩ := Num.out hq; have B3 := B2.trans (b3.mono B2.size); have X3 := Dg.below L2 b3)
    | (go_at_call 34; with_reducible refine (O2.out _).mono ?_; rintro e w4 ⟨a4, k4, c4, rfl, L4, b4⟩; have B4 := B3.trans (b4.mono B3.size); have X4 := Dg.below X3 b4; have A4 := Dg.below L3 b4)
    | (go_at_call 35; with_reducible refine (M2.out _ _ _ A4 L4).mono ?_; rintro e w5 ⟨a5, k5, c5, rfl, L5, b5⟩; have B5 := B4.trans (b5.mono B4.size); have X5 := Dg.below X4 b5)
    | (go_at_call 36; with_reducible refine (CM.out _ _ _ X5 L5).mono ?_; rintro e w6 ⟨rfl, b6⟩; have B6 := B5.trans (b6.mono B5.size)))
  go_ret
  exact ⟨ret_bool (by rw [← O.out]), B6⟩
end Go.Proofs.Ytjfopggpohakkaa
