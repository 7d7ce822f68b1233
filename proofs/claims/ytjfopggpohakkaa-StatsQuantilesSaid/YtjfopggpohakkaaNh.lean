/- Contracts of number, Of, Uint, Add. -/
import Derived.Test.YtjfopggpohakkaaNg
namespace Go.Proofs.Ytjfopggpohakkaa
open Go.RowKit

/-- A number as a result. -/
def Nt.numR (x : Nat) : List Nat × Int := if x < Nt.top then (Nt.dig x, 0) else ([], 3)
theorem Nt.dig_len (x : Nat) : (Nt.dig x).length ≤ 1024 ↔ x < Nt.top := by
  obtain ⟨k, hk⟩ : ∃ k, k = 1024 := ⟨_, rfl⟩
  rw [Nt.top_pow hk, ← hk]; exact Pos.dig_len Nt.two_B x k
theorem ret_sk {a a' : Option Addr} {n n' c c' : Nat} {x y : Int} (h : x = y) (ha : a = a') (hn : n = n') (hc : c = c') : Ending.returned (.tuple #[.slice a n c, .int .i64 x]) = .returned (.tuple #[.slice a' n' c', .int .i64 y]) := by rw [h, ha, hn, hc]
set_option maxRecDepth 100000 in
set_option maxHeartbeats 800000 in
theorem number3_any (v : Value) (l : List Nat) (x : Nat) (w : World) (h : Lm w v l) (hl : l.length ≤ 1000000000) (hx : Nt.val l = x) :
    Calls Try.prog 62 #[v] w fun e w' => ∃ a n c, e = .returned (.tuple #[.slice a n c, .int .i64 (Nt.numR x).2]) ∧ Lm w' (.slice a n c) (Nt.numR x).1 ∧ Qt w w' := by
  have L0 := h
  have T := Lib.hid (trimmed_any v l w h hl)
  obtain ⟨a, c, rfl, hf, ha, hcap, h⟩ := h
  have HT := Lib.hid (fun k hk => L0.take k hk)
  have D := Nt.dig_len x
  subst hx
  clear L0 h hf ha hcap
  have HD := Lib.hid D
  clear D
  go_enter Try.func62, Try.ntmps62
  go_wp2_with (go_at_call 65; with_reducible refine T.out.mono ?_; rintro e w2 ⟨a2, k, c2, e2, rfl, hk, ht, q2⟩; have Q2 := Lib.hid q2; have E2 := Lib.hid e2; have K2 := Lib.hid ht; have L2 := Lib.hid hk; clear q2 e2 ht hk)
  · go_ret2
    rename_i hlong
    obtain ⟨rfl, -, rfl⟩ := Value.slice.inj E2.out
    have hk2 : (Nt.dig (Nt.val l)).length = k := by rw [← K2.out, List.length_take]; have := L2.out; omega
    have nx : ¬ Nt.val l < Nt.top := fun c => by have := HD.out.2 c; omega
    have e : Nt.numR (Nt.val l) = ([], 3) := by unfold Nt.numR; rw [if_neg nx]
    rw [e]
    exact ⟨_, _, _, rfl, Lm.nil _, Q2.out⟩
  · go_ret2
    rename_i hlong
    obtain ⟨rfl, -, rfl⟩ := Value.slice.inj E2.out
    have hk2 : (Nt.dig (Nt.val l)).length = k := by rw [← K2.out, List.length_take]; have := L2.out; omega
    have nx : Nt.val l < Nt.top := HD.out.1 (by omega)
    have e : Nt.numR (Nt.val l) = (Nt.dig (Nt.val l), 0) := by unfold Nt.numR; rw [if_pos nx]
    rw [e, ← K2.out]
    exact ⟨_, _, _, rfl, (HT.out k L2.out).below Q2.out.bl, Q2.out⟩
/-- A word as limbs. -/
theorem val_two (x y : Nat) : Nt.val [x, y] = x + Nt.B * y := by
  show x + Nt.B * (y + Nt.B * 0) = _
  rw [Nat.mul_zero, Nat.add_zero]
set_option maxRecDepth 100000 in
set_option maxHeartbeats 800000 in
theorem of3_any (n : Int) (w : World) (h0 : 0 ≤ n) (h1 : n ≤ 18446744073709551615) :
    Calls Try.prog 34 #[.int .u64 n] w fun e w' => ∃ a k c, e = .returned (.slice a k c) ∧ Lm w' (.slice a k c) (Nt.dig n.toNat) ∧ Below w.heap.size w w' := by
  obtain ⟨N, rfl⟩ : ∃ N : Nat, n = (N : Int) := ⟨n.toNat, by omega⟩
  rw [Int.toNat_natCast]
  obtain ⟨lo, hlo⟩ : ∃ lo, lo = N % 4294967296 := ⟨_, rfl⟩
  obtain ⟨hi, hhi⟩ : ∃ hi, hi = N / 4294967296 := ⟨_, rfl⟩
  have E1 : (N : Int) % 4294967296 = (lo : Int) := by omega
  have E2 : (N : Int) / 4294967296 = (hi : Int) := by omega
  have E3 : (hi : Int) % 4294967296 = (hi : Int) := by omega
  have V : Hid (Nt.val [lo, hi] = N) := by show _ = _; rw [val_two, B_is]; omega
  have F : Nt.Fit [lo, hi] := Nt.fit_cons (by rw [B_is]; omega) (Nt.fit_one (by rw [B_is]; omega))
  obtain ⟨w1, hw1⟩ : ∃ w1, w1 = w.alloc (.cells #[.int .u32 (lo : Nat), .int .u32 (hi : Nat)] 55) := ⟨_, rfl⟩
  have L1 : Lm w1 (.slice (some ⟨w.heap.size, 0, none⟩) 2 2) [lo, hi] := by
    rw [hw1]
    refine ⟨_, 2, rfl, F, (fun e => by cases e), Nat.le_refl _, Or.inr ⟨w.heap.size, 0, rfl, fun j hj => ?_⟩⟩
    rw [Nat.zero_add]
    have : j = 0 ∨ j = 1 := by simp at hj; omega
    rcases this with rfl | rfl
    · exact cell_at w _ _ 0 _ _ rfl rfl
    · exact cell_at w _ _ 1 _ _ rfl rfl
  have B1 : Hid (Below w.heap.size w w1) := by show Below _ _ _; rw [hw1]; exact (Below.refl _ w).alloc (Nat.le_refl _) _
  have LL := Lib.hid (fun k hk => L1.take k hk)
  have T := Lib.hid (trimmed_any _ _ w1 L1 (by simp))
  rw [V.out, hw1] at T
  have HW := Lib.hid hw1
  clear hlo hhi F L1 hw1 h0 h1
  go_enter Try.func34, Try.ntmps34
  go_wp2_with (go_at_call 65; with_reducible refine T.out.mono ?_; rintro e w2 ⟨a2, k, c2, e2, rfl, hk, ht, q2⟩)
  go_ret
  rw [← HW.out] at q2
  refine ⟨_, _, _, rfl, ?_, B1.out.trans (q2.bl.mono ?_)⟩
  · rw [← ht]; exact (LL.out k hk).below q2.bl
  · exact B1.out.size
theorem word_short {l : List Nat} (hf : Nt.Fit l) (hr : Nt.rg l = true) : Nt.val l < 18446744073709551616 ↔ l.length ≤ 2 := by
  have := Pos.len_le Nt.two_B (Nt.ok_of hf hr) 2
  rw [this, Nat.pow_two, BB]; rfl
theorem val_at_two {l : List Nat} (h : l.length ≤ 2) : Nt.val l = l.getD 1 0 * 4294967296 + l.getD 0 0 := by
  match l, h with
  | [], _ => rfl
  | [x], _ => show x + Nt.B * 0 = 0 * 4294967296 + x; omega
  | [x, y], _ => rw [val_two, B_is]; show _ = y * 4294967296 + x; omega
theorem ret_wb {a b : Int} {x y : Bool} (h : a = b) (h' : x = y) : Ending.returned (.tuple #[.int .u64 a, .bool x]) = .returned (.tuple #[.int .u64 b, .bool y]) := by rw [h, h']
end Go.Proofs.Ytjfopggpohakkaa
