/- Contracts of money's Right, Sum, Add, part, totalWeight. -/
import Derived.Test.YthdmgnlemmpjkaaDoorSl
namespace Go.Proofs.YthdmgnlemmpjkaaDoor
open Go.RowKit

set_option maxHeartbeats 400000 in
theorem right_any (c : Int) (w : World) : Calls Tryd.prog 23 #[.int .i64 c] w fun e w' => e = .returned (.bool (Mny.rt c)) ∧ w = w' := by
  by_cases c1 : -1000000000000000 ≤ c <;> by_cases c2 : c ≤ 1000000000000000
  all_goals
    go_enter Tryd.func23, Tryd.ntmps23
    go_wp2
    go_ret
    exact ⟨ret_bool (by unfold Mny.rt; simp [c1, c2]), rfl⟩
theorem right_b (c : Int) (b : Bool) (w : World) (h : Mny.rt c = b) : Calls Tryd.prog 23 #[.int .i64 c] w fun e w' => e = .returned (.bool b) ∧ w = w' := by
  subst h; exact right_any c w
/-- Quotients and rests, as the walk has them. -/
theorem div_neg (c W : Int) (h1 : -1000000000000000 ≤ c) (h2 : c ≤ 1000000000000000) (hW : 1 ≤ W) : -1000000000000000 ≤ c / W ∧ c / W ≤ 1000000000000000 := by
  have := Mny.q_bd (c := c) (n := 1) (w := W) (m := 1000000000000000) hW (by omega) hW h1 h2 (by omega)
  rwa [Int.mul_one] at this
theorem mul_bd {a b A B : Int} (h1 : -A ≤ a) (h2 : a ≤ A) (h3 : 0 ≤ b) (h4 : b ≤ B) (hA : 0 ≤ A) : -(A * B) ≤ a * b ∧ a * b ≤ A * B := by
  have x1 : a * b ≤ A * b := Int.mul_le_mul_of_nonneg_right h2 h3
  have x2 : -A * b ≤ a * b := Int.mul_le_mul_of_nonneg_right h1 h3
  have x3 : A * b ≤ A * B := Int.mul_le_mul_of_nonneg_left h4 hA
  rw [Int.neg_mul] at x2
  omega
theorem part_fin (c n W : Int) (h1 : -1000000000000000 ≤ c) (h2 : c ≤ 1000000000000000) (hW : 1 ≤ W) (hW2 : W ≤ 4096000000) (hn : 0 ≤ n) (hn2 : n ≤ 1000000) (hnW : n ≤ W) :
    wrap64 (wrap64 (c / W * n) + wrap64 ((wrap64 (c % W * n)).tdiv W)) = c * n / W ∧ (wrap64 (c % W * n)).tmod W = c * n % W := by
  obtain ⟨e1, e2⟩ := Mny.part_eq c n W hW
  have q := Mny.q_bd hW hn hnW h1 h2 (by omega)
  have r0 := Int.emod_nonneg c (show W ≠ 0 by omega)
  have r1 := Int.emod_lt_of_pos c (show 0 < W by omega)
  have m := mul_bd (a := c % W) (b := n) (A := 4096000000) (B := 1000000) (by omega) (by omega) hn hn2 (by omega)
  have p0 : 0 ≤ c % W * n := Int.mul_nonneg r0 hn
  have p1 : 0 ≤ c % W * n / W := Int.ediv_nonneg p0 (by omega)
  have p2 : c % W * n / W ≤ c % W * n := Int.ediv_le_self _ p0
  obtain ⟨x, hx⟩ : ∃ x, x = c % W * n := ⟨_, rfl⟩
  obtain ⟨y, hy⟩ : ∃ y, y = c / W * n := ⟨_, rfl⟩
  rw [← hx] at e1 e2 m p0 p1 p2 ⊢
  rw [← hy] at e1 ⊢
  rw [IntWalk.wrap64_in x ⟨by omega, by omega⟩, Int.tdiv_eq_ediv_of_nonneg p0, Int.tmod_eq_emod_of_nonneg p0, IntWalk.wrap64_in (x / W) ⟨by omega, by omega⟩, IntWalk.wrap64_in y ⟨by omega, by omega⟩, e1]
  exact ⟨IntWalk.wrap64_in _ ⟨by omega, by omega⟩, e2⟩
set_option maxHeartbeats 1600000 in
theorem part_any (c n W : Int) (w : World) (h1 : -1000000000000000 ≤ c) (h2 : c ≤ 1000000000000000) (hW : 1 ≤ W) (hW2 : W ≤ 4096000000) (hn : 0 ≤ n) (hn2 : n ≤ 1000000) (hnW : n ≤ W) :
    Calls Tryd.prog 33 #[.int .i64 c, .int .i64 n, .int .i64 W] w fun e w' => e = .returned (.tuple #[.int .i64 (c * n / W), .int .i64 (c * n % W)]) ∧ Qt w w' := by
  have E := Lib.hid (part_fin c n W h1 h2 hW hW2 hn hn2 hnW)
  have hW0 : (W == 0) = false := by rw [beq_eq_false_iff_ne]; omega
  have hb0 := Int.emod_nonneg c (show W ≠ 0 by omega)
  have hb1 := Int.emod_lt_of_pos c (show 0 < W by omega)
  have d1 := div_neg c W h1 h2 hW
  by_cases q : c.tmod W < 0
  · obtain ⟨f1, f2⟩ := Mny.fl_neg c W hW q
    go_enter Tryd.func33, Tryd.ntmps33
    go_wp2
    go_region
    go_wp2
    go_region
    go_wp2
    go_ret2
    exact ⟨ret_ii E.out.1 E.out.2, ⟨2, rfl⟩⟩
  · obtain ⟨f1, f2⟩ := Mny.fl_pos c W hW (by omega)
    go_enter Tryd.func33, Tryd.ntmps33
    go_wp2
    go_region
    go_wp2
    go_region
    go_wp2
    go_ret2
    exact ⟨ret_ii E.out.1 E.out.2, ⟨2, rfl⟩⟩
set_option maxHeartbeats 800000 in
theorem sum_any (v : Value) (xs : List Int) (w : World) (h : Sl w v xs) :
    Calls Tryd.prog 16 #[v] w fun e w' => e = .returned (.tuple #[.int .i64 (Mny.sumV xs), .int .i64 (Mny.sumE xs)]) ∧ w = w' := by
  obtain ⟨a, c, rfl, h⟩ := h
  obtain ⟨n, hn⟩ : ∃ n, n = xs.length := ⟨_, rfl⟩
  rw [← hn] at h ⊢
  have HN := Lib.hid hn
  by_cases hl : 4096 < n
  · have E := Lib.hid (Mny.sum_many (l := xs) (by omega))
    clear hn h
    go_enter Tryd.func16, Tryd.ntmps16
    go_wp2
    go_ret2
    exact ⟨ret_ii E.out.2.symm E.out.1.symm, rfl⟩
  · have H := Lib.hid h
    clear hn h
    go_enter Tryd.func16, Tryd.ntmps16
    go_wp2
    go_loop [4, 12] (fun s i => ∃ k : Nat, k ≤ n ∧ i = .int .i64 k ∧ s = .int .i64 (Mny.sm (xs.take k)) ∧ (xs.take k).all Mny.rt = true) (fun _ i => n - (intOf i).toNat)
    case atStart => exact ⟨0, Nat.zero_le _, rfl, rfl, rfl⟩
    case round =>
      obtain ⟨k, hk, rfl, rfl, hi⟩ := hrel
      have HI := Lib.hid hi
      have hb := Mny.sm_small (l := xs.take k) (by rw [List.length_take]; omega) hi
      obtain ⟨hb1, hb2⟩ := hb
      clear hi
      by_cases hlt : k < n
      · rcases H.out with h0 | ⟨b, off, rfl, hc⟩
        · exfalso; have := HN.out; rw [h0] at this; simp at this; omega
        · have hck := hc k (by have := HN.out; omega)
          have S : Hid (Mny.sm (xs.take (k + 1)) = Mny.sm (xs.take k) + xs.getD k 0) := Mny.sm_take xs k (by have := HN.out; omega)
          have A : Hid ((xs.take (k + 1)).all Mny.rt = ((xs.take k).all Mny.rt && Mny.rt (xs.getD k 0))) := Mny.all_take k (by have := HN.out; omega)
          obtain ⟨x, hx⟩ : ∃ x, x = xs.getD k 0 := ⟨_, rfl⟩
          rw [← hx] at hck S A
          have N : Hid (Mny.rt x = false → xs.all Mny.rt = false) := fun e => Mny.all_no k (by have := HN.out; omega) (by rw [← hx]; exact e)
          clear hx hc
          cases q : Mny.rt x
          · have Q := Lib.hid q
            have E := Lib.hid (Mny.sum_arg (l := xs) (by have := HN.out; omega) (N.out q))
            clear q
            go_wp2_with (go_at_call 23; refine (right_b _ _ _ Q.out).mono ?_; rintro e w' ⟨rfl, rfl⟩)
            go_ret2
            exact ⟨ret_ii E.out.2.symm E.out.1.symm, rfl⟩
          · have Q := Lib.hid q
            have qb := (Mny.rt_iff x).1 q
            obtain ⟨qb1, qb2⟩ := qb
            clear q
            go_wp2_with (go_at_call 23; refine (right_b _ _ _ Q.out).mono ?_; rintro e w' ⟨rfl, rfl⟩)
            go_round
            case rel => exact ⟨k + 1, by omega, by go_num, by rw [S.out], by rw [A.out, HI.out, Q.out]; rfl⟩
            case measure => simp [intOf]; omega
      · have e : xs.take k = xs := List.take_of_length_le (by have := HN.out; omega)
        rw [e] at HI hb1 hb2 ⊢
        have E := Lib.hid e
        clear e
        cases q : Mny.rt (Mny.sm xs)
        · have Q := Lib.hid q
          have E := Lib.hid (Mny.sum_long (l := xs) (by have := HN.out; omega) HI.out q)
          clear q
          go_wp2_with (go_at_call 23; refine (right_b _ _ _ Q.out).mono ?_; rintro e w' ⟨rfl, rfl⟩)
          go_ret2
          exact ⟨ret_ii E.out.2.symm E.out.1.symm, rfl⟩
        · have Q := Lib.hid q
          have E := Lib.hid (Mny.sum_ok (l := xs) (by have := HN.out; omega) HI.out q)
          clear q
          go_wp2_with (go_at_call 23; refine (right_b _ _ _ Q.out).mono ?_; rintro e w' ⟨rfl, rfl⟩)
          go_ret2
          exact ⟨ret_ii E.out.2.symm E.out.1.symm, rfl⟩
end Go.Proofs.YthdmgnlemmpjkaaDoor
