/- The closure of the upper bound. -/
import Derived.Test.YtjfopggpohakkaaSg
namespace Go.Proofs.Ytjfopggpohakkaa
open Go.RowKit Go.Shelf
set_option maxRecDepth 100000 in
set_option maxHeartbeats 1600000 in
theorem greatest1_any (n k p r L E Bn' Bk : Nat) (w : World) (hn : n ≤ 500) (hk : k ≤ n) (hp : p ≤ 10000) (hr : r ≤ 2000) (hA : Asks n k L E Bn' Bk (r * 10000 ^ n) w) :
    Calls Try.prog 58 #[.int .i64 p, .pointer (some ⟨E, 0, none⟩), .pointer (some ⟨Bn', 0, none⟩), .pointer (some ⟨Bk, 0, none⟩)] w fun e w' => e = .returned (.bool (Bn.ex n r (Bn.Up n (n - k) p))) ∧ Below w.heap.size w w' := by
  obtain ⟨s, hs⟩ : ∃ s, s = 10000 - p := ⟨_, rfl⟩
  have eU : Bn.Up n (n - k) p = Bn.S s (10000 - s) n (k + 1) := by
    have := Bn.Lo_Up (n := n) (k := k) (p := s) hk (by unfold Bn.W; omega)
    rw [show Bn.W - s = p by unfold Bn.W; omega] at this
    rw [← this]; rfl
  rw [eU]
  have e1 : (10000 : Int) - (p : Int) = (s : Int) := by omega
  have r1 : wrap64 (s : Int) = (s : Int) := by rw [← IntWalk.i64_left]; exact IntWalk.i64_in _ (by omega)
  have r2 : IntKind.i64.wrap (s : Int) = (s : Int) := IntWalk.i64_in _ (by omega)
  have s1 : (s : Int) ≤ 10000 := by omega
  have t1 : Bn.S s (10000 - s) n (k + 1) < Nt.top := by have := S_top (n := n) (k := k + 1) (a := s) (b := 10000 - s) (y := 1) hn (by omega) (by omega); omega
  have t2 : 10000 * Bn.S s (10000 - s) n (k + 1) < Nt.top := S_top (n := n) (k := k + 1) (a := s) (b := 10000 - s) hn (by omega) (by omega)
  have t3 : r * 10000 ^ n < Nt.top := top_W hn (by omega)
  have OM := Lib.hid (fun w' => orFewer_any n k s w' hn hk (by omega))
  have EX := Lib.hid (fun v w' (h : Sum L (r * 10000 ^ n) w') (h' : Dg w' v (Bn.S s (10000 - s) n (k + 1))) => exceeding1_any v L _ _ w' h h' t1 t2 t3)
  have HA := Lib.hid hA
  have XE : Hid (Bn.ex n r (Bn.S s (10000 - s) n (k + 1)) = decide (r * 10000 ^ n < 10000 * Bn.S s (10000 - s) n (k + 1))) := rfl
  rw [XE.out]
  obtain ⟨hl, hfe, hcn, hck⟩ := hA
  clear hl t1 t2 t3 hs eU
  go_enter Try.func58, Try.ntmps58
  go_wp2
  go_region_with (first
    | (go_at_call 59; (with_reducible refine (OM.out _).mono ?_); intro e w5 hq; obtain ⟨x5, k5, c5, rfl, D5, b5⟩ := Num.out hq; have hc5 := kept_cell b5 (by simpa using hfe); have HL5 := Sum.below HA.out.lim (chain5 b5 (Below.refl _ _)))
    | (go_at_call 80; (with_reducible refine (EX.out _ _ (by repeat (first | (with_reducible exact HL5) | (with_reducible refine Sum.drew ?_))) (by repeat (first | (with_reducible exact D5) | (with_reducible refine Dg.drew ?_)))).mono ?_); rintro e w6 ⟨rfl, b6⟩))
  all_goals go_wp2
  all_goals go_ret
  all_goals exact ⟨rfl, chain5 b5 b6⟩
end Go.Proofs.Ytjfopggpohakkaa
