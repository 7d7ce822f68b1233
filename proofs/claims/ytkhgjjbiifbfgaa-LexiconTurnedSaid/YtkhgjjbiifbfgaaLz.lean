/- Words that are refused; New. -/
import Derived.Test.YtkhgjjbiifbfgaaLy
namespace Go.Proofs.Ytkhgjjbiifbfgaa
open Go.RowKit

variable {B X N : Nat} {w w' : World} {ws : List Ed.Bs}
set_option maxHeartbeats 1600000 in
theorem add_none (X : Nat) (w : World) : Calls Try.prog 23 #[nd X, sb []] w fun e w' => e = .returned (.int .i64 2) ∧ w = w' := by
  go_enter Try.func23, Try.ntmps23
  go_wp2
  go_ret
  exact ⟨rfl, rfl⟩
set_option maxHeartbeats 1600000 in
theorem add_long (X : Nat) (xs : Ed.Bs) (h3 : 40 < xs.length) (w : World) : Calls Try.prog 23 #[nd X, sb xs] w fun e w' => e = .returned (.int .i64 3) ∧ w = w' := by
  have ne : xs.isEmpty = false := by cases xs <;> simp_all
  go_enter Try.func23, Try.ntmps23
  go_wp2
  go_ret
  exact ⟨rfl, rfl⟩
set_option maxRecDepth 100000 in
set_option maxHeartbeats 3200000 in
theorem add_twice (h : Lex B X w ws) (xs : Ed.Bs) (h1 : xs ∈ ws) (hB : B ≤ w.heap.size) (hn : ws.length ≤ 1000) :
    Calls Try.prog 23 #[nd X, sb xs] w fun e w' => e = .returned (.int .i64 70) ∧ Below B w w' := by
  obtain ⟨M, nm, N, r, v, hN, L⟩ := h
  have h2 := L.good.ne xs h1
  have h3 := L.good.le xs h1
  have GR := Lib.hid (grow_any (xs := xs) L.tr L.root L.closed L.neg hB (by omega) (by omega))
  have ne : xs.isEmpty = false := by simpa using h2
  have x1 := L.x1
  obtain ⟨i, hi, -, e2⟩ := L.nums.yes h1
  have HE := Lib.hid e2
  have HB := Lib.hid hB
  clear L h1 h2 hB e2
  go_enter Try.func23, Try.ntmps23
  go_wp2_with (go_at_call 35; (with_reducible refine GR.out.mono ?_); rintro e w1 ⟨M', y, rfl, hy, G⟩; have y0 := G.tr.c0 _ _ hy; rw [HE.out] at y0; have G2 := Lib.hid G; clear G hy)
  go_ret
  exact ⟨rfl, G2.out.kc.below HB.out⟩
end Go.Proofs.Ytkhgjjbiifbfgaa
