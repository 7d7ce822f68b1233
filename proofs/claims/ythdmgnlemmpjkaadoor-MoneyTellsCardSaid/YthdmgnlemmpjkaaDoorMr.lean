/- Contracts of the reference's amounts, sums and shares. -/
import Derived.Test.YthdmgnlemmpjkaaDoorPk
namespace Go.Proofs.YthdmgnlemmpjkaaDoor
open Go.RowKit

set_option maxHeartbeats 400000 in
theorem rright_any (c : Int) (w : World) : Calls Tryd.prog 25 #[.int .i64 c] w fun e w' => e = .returned (.bool (Mny.rt c)) ∧ w = w' := by
  by_cases c1 : -1000000000000000 ≤ c <;> by_cases c2 : c ≤ 1000000000000000
  all_goals
    go_enter Tryd.func25, Tryd.ntmps25
    go_wp2
    go_ret
    exact ⟨ret_bool (by unfold Mny.rt; simp [c1, c2]), rfl⟩
theorem rright_b (c : Int) (b : Bool) (w : World) (h : Mny.rt c = b) : Calls Tryd.prog 25 #[.int .i64 c] w fun e w' => e = .returned (.bool b) ∧ w = w' := by
  subst h; exact rright_any c w
set_option maxHeartbeats 800000 in
theorem rsum_any (v : Value) (xs : List Int) (w : World) (h : Sl w v xs) :
    Calls Tryd.prog 27 #[v] w fun e w' => e = .returned (.tuple #[.int .i64 (Mny.sumV xs), .int .i64 (Mny.sumE xs)]) ∧ w = w' := by
  obtain ⟨a, c, rfl, h⟩ := h
  obtain ⟨n, hn⟩ : ∃ n, n = xs.length := ⟨_, rfl⟩
  rw [← hn] at h ⊢
  have HN := Lib.hid hn
  by_cases hl : 4096 < n
  · have E := Lib.hid (Mny.sum_many (l := xs) (by omega))
    clear hn h
    go_enter Tryd.func27, Tryd.ntmps27
    go_wp2
    go_ret2
    exact ⟨ret_ii E.out.2.symm E.out.1.symm, rfl⟩
  · have H := Lib.hid h
    clear hn h
    go_enter Tryd.func27, Tryd.ntmps27
    go_wp2
    go_loop [4, 5] (fun s i => ∃ k : Nat, k ≤ n ∧ i = .int .i64 k ∧ s = .int .i64 (Mny.sm (xs.take k)) ∧ (xs.take k).all Mny.rt = true) (fun _ i => n - (intOf i).toNat)
    case atStart => exact ⟨0, Nat.zero_le _, rfl, rfl, rfl⟩
    case round =>
      obtain ⟨k, hk, rfl, rfl, hi⟩ := hrel
      have HI := Lib.hid hi
      have hb := Mny.sm_small (l := xs.take k) (by rw [List.length_take]; omega) hi
      obtain ⟨hb1, hb2⟩ := hb
      clear hi
      by_cases hlt : k < n
      · rcases H.out with h0 | ⟨b, off, rfl, hc⟩
        · exfalso; have := HN.out; rw [h0] at this; simp at this; omega
        · have hck := hc k (by have := HN.out; omega)
          have S : Hid (Mny.sm (xs.take (k + 1)) = Mny.sm (xs.take k) + xs.getD k 0) := Mny.sm_take xs k (by have := HN.out; omega)
          have A : Hid ((xs.take (k + 1)).all Mny.rt = ((xs.take k).all Mny.rt && Mny.rt (xs.getD k 0))) := Mny.all_take k (by have := HN.out; omega)
          obtain ⟨x, hx⟩ : ∃ x, x = xs.getD k 0 := ⟨_, rfl⟩
          rw [← hx] at hck S A
          have N : Hid (Mny.rt x = false → xs.all Mny.rt = false) := fun e => Mny.all_no k (by have := HN.out; omega) (by rw [← hx]; exact e)
          clear hx hc
          cases q : Mny.rt x
          · have Q := Lib.hid q
            have E := Lib.hid (Mny.sum_arg (l := xs) (by have := HN.out; omega) (N.out q))
            clear q
            go_wp2_with (go_at_call 25; refine (rright_b _ _ _ Q.out).mono ?_; rintro e w' ⟨rfl, rfl⟩)
            go_ret2
            exact ⟨ret_ii E.out.2.symm E.out.1.symm, rfl⟩
          · have Q := Lib.hid q
            have qb := (Mny.rt_iff x).1 q
            obtain ⟨qb1, qb2⟩ := qb
            clear q
            go_wp2_with (go_at_call 25; refine (rright_b _ _ _ Q.out).mono ?_; rintro e w' ⟨rfl, rfl⟩)
            go_round
            case rel => exact ⟨k + 1, by omega, by go_num, by rw [S.out], by rw [A.out, HI.out, Q.out]; rfl⟩
            case measure => simp [intOf]; omega
      · have e : xs.take k = xs := List.take_of_length_le (by have := HN.out; omega)
        rw [e] at HI hb1 hb2 ⊢
        have E := Lib.hid e
        clear e
        cases q : Mny.rt (Mny.sm xs)
        · have Q := Lib.hid q
          have E := Lib.hid (Mny.sum_long (l := xs) (by have := HN.out; omega) HI.out q)
          clear q
          go_wp2_with (go_at_call 25; refine (rright_b _ _ _ Q.out).mono ?_; rintro e w' ⟨rfl, rfl⟩)
          go_ret2
          exact ⟨ret_ii E.out.2.symm E.out.1.symm, rfl⟩
        · have Q := Lib.hid q
          have E := Lib.hid (Mny.sum_ok (l := xs) (by have := HN.out; omega) HI.out q)
          clear q
          go_wp2_with (go_at_call 25; refine (rright_b _ _ _ Q.out).mono ?_; rintro e w' ⟨rfl, rfl⟩)
          go_ret2
          exact ⟨ret_ii E.out.2.symm E.out.1.symm, rfl⟩
set_option maxHeartbeats 800000 in
theorem radd_any (x y : Int) (w : World) :
    Calls Tryd.prog 24 #[.int .i64 x, .int .i64 y] w fun r w' => r = .returned (.tuple #[.int .i64 (Mny.sumV [x, y]), .int .i64 (Mny.sumE [x, y])]) ∧ Below w.heap.size w w' := by
  have S := Lib.hid (fun W => rsum_any _ [x, y] _ (sl2 W x y 3 2))
  obtain ⟨a, ha⟩ : ∃ a, a = Mny.sumV [x, y] := ⟨_, rfl⟩
  obtain ⟨e, he⟩ : ∃ a, a = Mny.sumE [x, y] := ⟨_, rfl⟩
  rw [← ha, ← he] at S ⊢
  clear ha he
  go_enter Tryd.func24, Tryd.ntmps24
  go_wp2_with (go_at_call 27; refine (S.out _).mono ?_; rintro r w' ⟨rfl, rfl⟩)
  go_ret2
  exact ⟨rfl, by go_grown⟩
set_option maxHeartbeats 1600000 in
theorem rdown_any (c W : Int) (w : World) (h1 : -1000000000000000 ≤ c) (h2 : c ≤ 1000000000000000) (hW : 1 ≤ W) (hW2 : W ≤ 4096000000) :
    Calls Tryd.prog 49 #[.int .i64 c, .int .i64 W] w fun e w' => e = .returned (.tuple #[.int .i64 (c / W), .int .i64 (c % W)]) ∧ Qt w w' := by
  have hW0 : (W == 0) = false := by rw [beq_eq_false_iff_ne]; omega
  have hb0 := Int.emod_nonneg c (show W ≠ 0 by omega)
  have hb1 := Int.emod_lt_of_pos c (show 0 < W by omega)
  have d1 := div_neg c W h1 h2 hW
  by_cases q : c.tmod W < 0
  · obtain ⟨f1, f2⟩ := Mny.fl_neg c W hW q
    go_enter Tryd.func49, Tryd.ntmps49
    go_wp2
    go_region
    go_wp2
    go_ret2
    exact ⟨rfl, ⟨1, rfl⟩⟩
  · obtain ⟨f1, f2⟩ := Mny.fl_pos c W hW (by omega)
    go_enter Tryd.func49, Tryd.ntmps49
    go_wp2
    go_region
    go_wp2
    go_ret2
    exact ⟨rfl, ⟨1, rfl⟩⟩
namespace Mny
theorem uniq {d Q R P : Int} (hd : 1 ≤ d) (h : Q * d + R = P) (h0 : 0 ≤ R) (h1 : R < d) : Q = P / d ∧ R = P % d := by
  have := (Int.ediv_emod_unique (show 0 < d by omega) (a := P) (r := R) (q := Q)).2 ⟨by rw [Int.mul_comm]; omega, h0, h1⟩
  exact ⟨this.1.symm, this.2.symm⟩
theorem two_step {a d m t b Q R ones rest : Int} (h : Q * d + R = a * m) (ht : t = 2 * m + b) (hr : ones * d + rest = a) : (2 * Q + b * ones) * d + (2 * R + b * rest) = a * t := by
  rw [ht, Int.mul_add, Int.add_mul, ← hr, Int.mul_assoc 2, Int.mul_assoc b]
  have e1 : (ones * d + rest) * (2 * m) = 2 * (Q * d + R) := by rw [h, ← hr, Int.mul_left_comm]
  have e2 : (ones * d + rest) * b = b * (ones * d) + b * rest := by rw [Int.add_mul, Int.mul_comm b, Int.mul_comm b]
  rw [e1, e2]; omega
theorem q_le {d Q R P m : Int} (hd : 1 ≤ d) (h : Q * d + R = P) (h0 : 0 ≤ R) (hm : P / d ≤ m) : Q ≤ m := by
  have : Q ≤ P / d := (Int.le_ediv_iff_mul_le (by omega)).2 (by omega)
  omega
end Mny
set_option maxRecDepth 100000 in
set_option maxHeartbeats 3200000 in
theorem rpart_any (a w d : Int) (W : World) (h1 : -1000000000000000 ≤ a) (h2 : a ≤ 1000000000000000) (hd : 1 ≤ d) (hd2 : d ≤ 4096000000) (hw : 0 ≤ w) (hw2 : w ≤ 1000000) (hwd : w ≤ d) :
    Calls Tryd.prog 39 #[.int .i64 a, .int .i64 w, .int .i64 d] W fun e w' => e = .returned (.tuple #[.int .i64 (a * w / d), .int .i64 (a * w % d)]) ∧ Qt W w' := by
  have DN := Lib.hid (fun w => rdown_any a d w h1 h2 hd hd2)
  have o1 := div_neg a d h1 h2 hd
  have r0 := Int.emod_nonneg a (show d ≠ 0 by omega)
  have r1 := Int.emod_lt_of_pos a (show 0 < d by omega)
  have hr := Int.mul_ediv_add_emod a d
  obtain ⟨ones, hon⟩ : ∃ o, o = a / d := ⟨_, rfl⟩
  obtain ⟨rest, hre⟩ : ∃ o, o = a % d := ⟨_, rfl⟩
  rw [← hon, ← hre] at DN hr
  rw [← hon] at o1
  rw [← hre] at r0 r1
  have HR : Hid (ones * d + rest = a) := by show _ = _; rw [Int.mul_comm]; exact hr
  have QB := Lib.hid (fun m (m0 : 0 ≤ m) (m1 : m ≤ w) => Mny.q_bd (c := a) (n := m) (w := d) (m := 1000000000000000) hd m0 (by omega) h1 h2 (by omega))
  have UN := Lib.hid (fun Q R P h h0 h1 => Mny.uniq (d := d) (Q := Q) (R := R) (P := P) hd h h0 h1)
  obtain ⟨o11, o12⟩ := o1
  clear hon hre hr
  go_enter Tryd.func39, Tryd.ntmps39
  go_wp2_with (go_at_call 49; refine (DN.out _).mono ?_; rintro e w1 ⟨rfl, q1⟩)
  have HQ := Lib.hid q1
  clear q1
  go_loopw [10, 11, 12] (fun q r bt wr => ∃ Q R B m : Int, q = .int .i64 Q ∧ r = .int .i64 R ∧ bt = .int .i64 B ∧ Q * d + R = a * m ∧ 0 ≤ R ∧ R < d ∧ 0 ≤ m ∧ m ≤ w ∧ 0 ≤ B ∧ B ≤ 1048576 ∧ (B = 0 ∧ m = w ∨ ∃ j : Nat, B = 2 ^ j ∧ m = w / (2 * B)) ∧ Qt W wr) (fun _ _ bt _ => (intOf bt).toNat)
  case atStart => exact ⟨0, 0, 1048576, 0, rfl, rfl, rfl, by simp, by omega, by omega, by omega, by omega, by omega, by omega, Or.inr ⟨20, by decide, by omega⟩, HQ.out⟩
  case round =>
    obtain ⟨Q, R, B, m, rfl, rfl, rfl, he, hR0, hR1, hm0, hm1, hB0, hB1, hj, hq⟩ := hrel
    have HQ2 := Lib.hid hq
    clear hq
    obtain ⟨u1, u2⟩ := UN.out Q R _ he hR0 hR1
    have qb := QB.out m hm0 hm1
    rw [← u1] at qb
    obtain ⟨qb1, qb2⟩ := qb
    have HE := Lib.hid he
    clear he
    rcases hj with ⟨rfl, rfl⟩ | ⟨j, hBj, hm⟩
    · have U := Lib.hid (And.intro u1 u2)
      clear u1 u2
      go_wp2
      go_ret2
      exact ⟨ret_ii U.out.1 U.out.2, HQ2.out⟩
    · have B1 : 1 ≤ B := by rw [hBj]; have := Int.pow_pos (n := 2) (m := j) (by omega); omega
      have hBne : (B == 0) = false := by rw [beq_eq_false_iff_ne]; omega
      obtain ⟨t, ht⟩ : ∃ t, t = w / B := ⟨_, rfl⟩
      have htd : w.tdiv B = t := by rw [ht, Int.tdiv_eq_ediv_of_nonneg hw]
      have htm : m = t / 2 := by rw [hm, ht, Int.mul_comm 2 B, Int.ediv_ediv_of_nonneg (by omega)]
      have t0 : 0 ≤ t := by rw [ht]; exact Int.ediv_nonneg hw (by omega)
      have t1 : t ≤ w := by rw [ht]; exact Int.ediv_le_self _ hw
      have hwt : IntKind.i64.wrap (w.tdiv B) = t := by rw [htd]; exact IntWalk.i64_in _ (by omega)
      have hwt' : wrap64 (w.tdiv B) = t := by rw [htd]; exact IntWalk.wrap64_in _ ⟨by omega, by omega⟩
      have NX : Hid (B / 2 = 0 ∧ t = w ∨ ∃ j : Nat, B / 2 = 2 ^ j ∧ t = w / (2 * (B / 2))) := by
        cases j with
        | zero => left; rw [ht, hBj]; simp
        | succ j =>
          right
          have e : B / 2 = 2 ^ j := by rw [hBj, Int.pow_succ]; omega
          refine ⟨j, e, ?_⟩
          rw [ht, e, hBj, Int.pow_succ, Int.mul_comm]
      have qt := QB.out t t0 t1
      clear hBj hm u1 u2 ht
      have e2 : t % 2 = 0 ∨ t % 2 = 1 := by omega
      rcases e2 with e2 | e2
      · have E3 : Hid ((2 * Q) * d + 2 * R = a * t) := by
          have := Mny.two_step (b := 0) HE.out (show t = 2 * m + 0 by omega) HR.out
          show _ = _; simpa using this
        go_wp2
        obtain ⟨wo, hwo⟩ : ∃ x, x = wr := ⟨_, rfl⟩
        rw [← hwo] at HQ2 ⊢
        clear hwo
        go_loopw [10, 11] (fun q r wr => ∃ Q' R' : Int, q = .int .i64 Q' ∧ r = .int .i64 R' ∧ Q' * d + R' = a * t ∧ 0 ≤ R' ∧ R' < 3 * d ∧ -4000000000000000 ≤ Q' ∧ Qt W wr) (fun _ r _ => (intOf r).toNat)
        case atStart => exact ⟨_, _, rfl, rfl, E3.out, by omega, by omega, by omega, HQ2.out⟩
        case round =>
          obtain ⟨Q', R', rfl, rfl, he', hR0', hR1', hQ', hq⟩ := hrel
          have HQ3 := Lib.hid hq
          have ql := Mny.q_le hd he' hR0' qt.2
          have HE' := Lib.hid he'
          clear hq he'
          by_cases c : d ≤ R'
          · go_wp2
            go_roundw
            case rel => exact ⟨Q' + 1, R' - d, rfl, rfl, by rw [Int.add_mul]; have := HE'.out; omega, by omega, by omega, by omega, HQ3.out⟩
            case measure => simp [intOf]; omega
          · go_wp2
            go_roundw
            case rel => exact ⟨Q', R', B / 2, t, rfl, rfl, rfl, HE'.out, by omega, by omega, by omega, by omega, by omega, by omega, NX.out, HQ3.out⟩
            case measure => simp [intOf]; omega
      · have E3 : Hid ((2 * Q + ones) * d + (2 * R + rest) = a * t) := by
          have := Mny.two_step (b := 1) HE.out (show t = 2 * m + 1 by omega) HR.out
          show _ = _; simpa using this
        go_wp2
        obtain ⟨wo, hwo⟩ : ∃ x, x = wr := ⟨_, rfl⟩
        rw [← hwo] at HQ2 ⊢
        clear hwo
        go_loopw [10, 11] (fun q r wr => ∃ Q' R' : Int, q = .int .i64 Q' ∧ r = .int .i64 R' ∧ Q' * d + R' = a * t ∧ 0 ≤ R' ∧ R' < 3 * d ∧ -4000000000000000 ≤ Q' ∧ Qt W wr) (fun _ r _ => (intOf r).toNat)
        case atStart => exact ⟨_, _, rfl, rfl, E3.out, by omega, by omega, by omega, HQ2.out⟩
        case round =>
          obtain ⟨Q', R', rfl, rfl, he', hR0', hR1', hQ', hq⟩ := hrel
          have HQ3 := Lib.hid hq
          have ql := Mny.q_le hd he' hR0' qt.2
          have HE' := Lib.hid he'
          clear hq he'
          by_cases c : d ≤ R'
          · go_wp2
            go_roundw
            case rel => exact ⟨Q' + 1, R' - d, rfl, rfl, by rw [Int.add_mul]; have := HE'.out; omega, by omega, by omega, by omega, HQ3.out⟩
            case measure => simp [intOf]; omega
          · go_wp2
            go_roundw
            case rel => exact ⟨Q', R', B / 2, t, rfl, rfl, rfl, HE'.out, by omega, by omega, by omega, by omega, by omega, by omega, NX.out, HQ3.out⟩
            case measure => simp [intOf]; omega
namespace Mny
theorem half_eq {c s : Int} (h3 : 0 ≤ s) (hr : c * s % 10000 = 5000) : 0 < c ↔ 0 ≤ c * s / 10000 := by
  have n : c ≤ 0 → c * s ≤ 0 := fun h => Int.mul_nonpos_of_nonpos_of_nonneg h h3
  have m : 0 < c → 0 ≤ c * s := fun h => Int.mul_nonneg (by omega) h3
  obtain ⟨P, hP⟩ : ∃ P, P = c * s := ⟨_, rfl⟩
  rw [← hP] at n m hr ⊢
  constructor
  · intro h; have := m h; omega
  · intro h
    by_cases q : 0 < c
    · exact q
    · have := n (by omega); omega
end Mny
set_option maxRecDepth 100000 in
set_option maxHeartbeats 3200000 in
theorem rshare_ok (c s way : Int) (W : World) (h1 : -1000000000000000 ≤ c) (h2 : c ≤ 1000000000000000) (h3 : 0 ≤ s) (h4 : s ≤ 10000) (h5 : 1 ≤ way) (h6 : way ≤ 4) :
    Calls Tryd.prog 29 #[.int .i64 c, .int .i64 s, .int .u8 way] W fun e w' => e = .returned (.tuple #[.int .i64 (Mny.rnd (c * s) way), .int .i64 0]) ∧ Qt W w' := by
  have R := Lib.hid (fun w => rright_b c true w ((Mny.rt_iff c).2 ⟨h1, h2⟩))
  have P := Lib.hid (fun w => rpart_any c s 10000 w h1 h2 (by omega) (by omega) h3 (by omega) h4)
  have qb := Mny.q_bd (c := c) (n := s) (w := 10000) (m := 1000000000000000) (by omega) h3 h4 h1 h2 (by omega)
  have hh := Mny.half_eq (c := c) h3
  have E : Hid (Mny.rnd (c * s) way = c * s / 10000 + Mny.ad way (c * s / 10000) (c * s % 10000)) := rfl
  obtain ⟨q, hq⟩ : ∃ q, q = c * s / 10000 := ⟨_, rfl⟩
  obtain ⟨r, hr⟩ : ∃ r, r = c * s % 10000 := ⟨_, rfl⟩
  have r0 : 0 ≤ r := by omega
  have r1 : r < 10000 := by omega
  rw [← hq, ← hr] at P E
  rw [← hr, ← hq] at hh
  rw [← hq] at qb
  obtain ⟨qb1, qb2⟩ := qb
  rw [E.out]
  have t2 := tmod2 q
  clear hq hr E
  have hw : way = 1 ∨ way = 2 ∨ way = 3 ∨ way = 4 := by omega
  rcases hw with rfl | rfl | rfl | rfl
  · go_enter Tryd.func29, Tryd.ntmps29
    go_wp2_with (first | (go_at_call 25; refine (R.out _).mono ?_; rintro e w' ⟨rfl, rfl⟩) | (go_at_call 39; refine (P.out _).mono ?_; rintro e w1 ⟨rfl, q1⟩))
    go_ret2
    exact ⟨ret_ii (by simp [Mny.ad]) rfl, q1⟩
  · by_cases c1 : 0 < r
    all_goals
      go_enter Tryd.func29, Tryd.ntmps29
      go_wp2_with (first | (go_at_call 25; refine (R.out _).mono ?_; rintro e w' ⟨rfl, rfl⟩) | (go_at_call 39; refine (P.out _).mono ?_; rintro e w1 ⟨rfl, q1⟩))
      go_ret2
      exact ⟨ret_ii (by simp [Mny.ad]; omega) rfl, q1⟩
  · by_cases c1 : 5000 < r
    · go_enter Tryd.func29, Tryd.ntmps29
      go_wp2_with (first | (go_at_call 25; refine (R.out _).mono ?_; rintro e w' ⟨rfl, rfl⟩) | (go_at_call 39; refine (P.out _).mono ?_; rintro e w1 ⟨rfl, q1⟩))
      go_ret2
      exact ⟨ret_ii (by simp [Mny.ad]; omega) rfl, q1⟩
    by_cases c2 : r = 5000 <;> by_cases c3 : 0 < c
    all_goals
      have c4 : r = 5000 → (0 < c ↔ 0 ≤ q) := hh
      clear hh
      go_enter Tryd.func29, Tryd.ntmps29
      go_wp2_with (first | (go_at_call 25; refine (R.out _).mono ?_; rintro e w' ⟨rfl, rfl⟩) | (go_at_call 39; refine (P.out _).mono ?_; rintro e w1 ⟨rfl, q1⟩))
      go_ret2
      exact ⟨ret_ii (by simp [Mny.ad]; omega) rfl, q1⟩
  · by_cases c1 : 5000 < r
    · go_enter Tryd.func29, Tryd.ntmps29
      go_wp2_with (first | (go_at_call 25; refine (R.out _).mono ?_; rintro e w' ⟨rfl, rfl⟩) | (go_at_call 39; refine (P.out _).mono ?_; rintro e w1 ⟨rfl, q1⟩))
      go_ret2
      exact ⟨ret_ii (by simp [Mny.ad]; omega) rfl, q1⟩
    by_cases c2 : r = 5000 <;> by_cases c3 : q.tmod 2 = 0
    all_goals
      have c4 : q.tmod 2 = 0 ↔ q % 2 = 0 := t2
      clear hh t2
      go_enter Tryd.func29, Tryd.ntmps29
      go_wp2_with (first | (go_at_call 25; refine (R.out _).mono ?_; rintro e w' ⟨rfl, rfl⟩) | (go_at_call 39; refine (P.out _).mono ?_; rintro e w1 ⟨rfl, q1⟩))
      go_ret2
      exact ⟨ret_ii (by simp [Mny.ad]; omega) rfl, q1⟩
end Go.Proofs.YthdmgnlemmpjkaaDoor
