/- Contracts of check, Choose, Chance, Upper, Lower. -/
import Derived.Test.YtjfopggpohakkaaSd
namespace Go.Proofs.Ytjfopggpohakkaa
open Go.RowKit

/-- The number of the error of arguments. -/
def chk (n k : Int) (b : Bool) : Int := if k < 0 ∨ n < k ∨ b = false then 2 else if 500 < n then 3 else 0
def shB (p : Int) : Bool := decide (0 ≤ p ∧ p ≤ 10000)
def rkB (p : Int) : Bool := decide (1 ≤ p ∧ p ≤ 2000)
theorem chk_ok {n k : Nat} {b : Bool} (hk : k ≤ n) (hn : n ≤ 500) (hb : b = true) : chk n k b = 0 := by
  unfold chk; rw [if_neg (by rw [hb]; simp; omega), if_neg (by omega)]
theorem chk_zero {n k : Int} {b : Bool} (h : chk n k b = 0) : 0 ≤ k ∧ k ≤ n ∧ n ≤ 500 ∧ b = true := by
  unfold chk at h
  split at h
  · omega
  · rename_i c
    split at h
    · omega
    · refine ⟨by omega, by omega, by omega, ?_⟩
      cases b with
      | true => rfl
      | false => exact absurd (Or.inr (Or.inr rfl)) c
set_option maxHeartbeats 800000 in
theorem share_any (p : Int) (w : World) : Calls Try.prog 51 #[.int .i64 p] w fun e w' => e = .returned (.bool (shB p)) ∧ w = w' := by
  by_cases h0 : 0 ≤ p
  · by_cases h1 : p ≤ 10000
    · have E : Hid (shB p = true) := by show _ = _; exact decide_eq_true ⟨h0, h1⟩
      go_enter Try.func51, Try.ntmps51
      go_wp2
      go_ret
      exact ⟨ret_bool (by rw [E.out]; try simp; try omega), rfl⟩
    · have E : Hid (shB p = false) := by show _ = _; exact decide_eq_false (fun c => h1 c.2)
      go_enter Try.func51, Try.ntmps51
      go_wp2
      go_ret
      exact ⟨ret_bool (by rw [E.out]; try simp; try omega), rfl⟩
  · have E : Hid (shB p = false) := by show _ = _; exact decide_eq_false (fun c => h0 c.1)
    go_enter Try.func51, Try.ntmps51
    go_wp2
    go_ret
    exact ⟨ret_bool (by rw [E.out]; try simp; try omega), rfl⟩
set_option maxHeartbeats 800000 in
theorem risk_is (p : Int) (w : World) : Calls Try.prog 53 #[.int .i64 p] w fun e w' => e = .returned (.bool (rkB p)) ∧ w = w' := by
  by_cases h0 : 1 ≤ p
  · by_cases h1 : p ≤ 2000
    · have E : Hid (rkB p = true) := by show _ = _; exact decide_eq_true ⟨h0, h1⟩
      go_enter Try.func53, Try.ntmps53
      go_wp2
      go_ret
      exact ⟨ret_bool (by rw [E.out]; try simp; try omega), rfl⟩
    · have E : Hid (rkB p = false) := by show _ = _; exact decide_eq_false (fun c => h1 c.2)
      go_enter Try.func53, Try.ntmps53
      go_wp2
      go_ret
      exact ⟨ret_bool (by rw [E.out]; try simp; try omega), rfl⟩
  · have E : Hid (rkB p = false) := by show _ = _; exact decide_eq_false (fun c => h0 c.1)
    go_enter Try.func53, Try.ntmps53
    go_wp2
    go_ret
    exact ⟨ret_bool (by rw [E.out]; try simp; try omega), rfl⟩
set_option maxHeartbeats 800000 in
theorem check_any (n k : Int) (b : Bool) (w : World) : Calls Try.prog 50 #[.int .i64 n, .int .i64 k, .bool b] w fun e w' => e = .returned (.int .i64 (chk n k b)) ∧ w = w' := by
  by_cases h0 : k < 0
  · have E : Hid (chk n k b = 2) := by show _ = _; unfold chk; rw [if_pos (Or.inl h0)]
    go_enter Try.func50, Try.ntmps50
    go_wp2
    go_ret
    exact ⟨ret_int E.out.symm, rfl⟩
  · by_cases h1 : n < k
    · have E : Hid (chk n k b = 2) := by show _ = _; unfold chk; rw [if_pos (Or.inr (Or.inl h1))]
      go_enter Try.func50, Try.ntmps50
      go_wp2
      go_ret
      exact ⟨ret_int E.out.symm, rfl⟩
    · cases b with
      | false =>
        have E : Hid (chk n k false = 2) := by show _ = _; unfold chk; rw [if_pos (Or.inr (Or.inr rfl))]
        go_enter Try.func50, Try.ntmps50
        go_wp2
        go_ret
        exact ⟨ret_int E.out.symm, rfl⟩
      | true =>
        by_cases h2 : 500 < n
        · have E : Hid (chk n k true = 3) := by show _ = _; unfold chk; rw [if_neg (by simp; omega), if_pos h2]
          go_enter Try.func50, Try.ntmps50
          go_wp2
          go_ret
          exact ⟨ret_int E.out.symm, rfl⟩
        · have E : Hid (chk n k true = 0) := by show _ = _; unfold chk; rw [if_neg (by simp; omega), if_neg h2]
          go_enter Try.func50, Try.ntmps50
          go_wp2
          go_ret
          exact ⟨ret_int E.out.symm, rfl⟩
/-- A call that hands back a number and an error. -/
def NumE (x : Nat) (c : Int) (w : World) (e : Ending) (w' : World) : Prop := ∃ a n k, e = .returned (.tuple #[.slice a n k, .int .i64 c]) ∧ Dg w' (.slice a n k) x ∧ Below w.heap.size w w'
theorem NumE.out {x : Nat} {c : Int} {w w' : World} {e : Ending} (h : NumE x c w e w') : ∃ a n k, e = .returned (.tuple #[.slice a n k, .int .i64 c]) ∧ Dg w' (.slice a n k) x ∧ Below w.heap.size w w' := h
theorem Dg.nil (w : World) : Dg w (.slice none 0 0) 0 := Lm.nil w
def valC (n k : Int) : Nat := if chk n k true = 0 then Bn.T 1 1 n.toNat k.toNat else 0
def valX (n k p : Int) : Nat := if chk n k (shB p) = 0 then Bn.T p.toNat (10000 - p.toNat) n.toNat k.toNat else 0
def valU (n k p : Int) : Nat := if chk n k (shB p) = 0 then Bn.Up n.toNat k.toNat p.toNat else 0
def valL (n k p : Int) : Nat := if chk n k (shB p) = 0 then Bn.Lo n.toNat k.toNat p.toNat else 0
theorem share_nat {p : Int} (h : shB p = true) : ∃ q : Nat, p = q ∧ q ≤ 10000 := by
  obtain ⟨a, b⟩ := of_decide_eq_true (show decide (0 ≤ p ∧ p ≤ 10000) = true from h)
  exact ⟨p.toNat, by omega, by omega⟩
set_option maxHeartbeats 1600000 in
theorem choose_any (n k : Int) (w : World) : Calls Try.prog 32 #[.int .i64 n, .int .i64 k] w (NumE (valC n k) (chk n k true) w) := by
  have C := Lib.hid (check_any n k true w)
  by_cases h : chk n k true = 0
  · obtain ⟨h1, h2, h3, _⟩ := chk_zero h
    obtain ⟨n, rfl⟩ : ∃ m : Nat, n = m := ⟨n.toNat, by omega⟩
    obtain ⟨k, rfl⟩ : ∃ m : Nat, k = m := ⟨k.toNat, by omega⟩
    have T : Hid (Calls Try.prog 52 #[.int .i64 n, .int .i64 k, .int .i64 1, .int .i64 1] w (Num (Bn.T 1 1 n k) w)) := term_any n k 1 1 w (by omega) (by omega) (by omega)
    have E : Hid (valC n k = Bn.T 1 1 n k) := by show _ = _; unfold valC; rw [if_pos h]; rfl
    have H := Lib.hid h
    rw [h] at C
    clear h h1 h2 h3
    rw [E.out, H.out]
    go_enter Try.func32, Try.ntmps32
    go_wp2_with (first
      | (go_at_call 50; with_reducible refine C.out.mono ?_; rintro e w1 ⟨rfl, rfl⟩)
      | (go_at_call 52; with_reducible refine T.out.mono ?_; intro e w1 hq; obtain ⟨x1, k1, c1, rfl, D1, b1⟩ := Num.out hq))
    go_ret2
    exact ⟨_, _, _, rfl, D1, b1⟩
  · have E : Hid (valC n k = 0) := by show _ = _; unfold valC; rw [if_neg h]
    obtain ⟨c, hc⟩ : ∃ c, c = chk n k true := ⟨_, rfl⟩
    rw [← hc] at C h ⊢
    rw [E.out]
    have h0 : (c == 0) = false := by rw [beq_eq_false_iff_ne]; exact h
    clear hc h
    go_enter Try.func32, Try.ntmps32
    go_wp2_with (go_at_call 50; with_reducible refine C.out.mono ?_; rintro e w1 ⟨rfl, rfl⟩)
    go_ret2
    exact ⟨_, _, _, rfl, Dg.nil _, Below.refl _ _⟩
set_option maxHeartbeats 1600000 in
theorem chance_any (n k p : Int) (w : World) : Calls Try.prog 22 #[.int .i64 n, .int .i64 k, .int .i64 p] w (NumE (valX n k p) (chk n k (shB p)) w) := by
  have SH := Lib.hid (share_any p w)
  have C := Lib.hid (check_any n k (shB p) w)
  by_cases h : chk n k (shB p) = 0
  · obtain ⟨h1, h2, h3, h4⟩ := chk_zero h
    obtain ⟨n, rfl⟩ : ∃ m : Nat, n = m := ⟨n.toNat, by omega⟩
    obtain ⟨k, rfl⟩ : ∃ m : Nat, k = m := ⟨k.toNat, by omega⟩
    obtain ⟨p, rfl, hp⟩ := share_nat h4
    have E : Hid (valX n k p = Bn.T p (10000 - p) n k) := by show _ = _; unfold valX; rw [if_pos h]; rfl
    obtain ⟨q, hq⟩ : ∃ q, q = 10000 - p := ⟨_, rfl⟩
    rw [← hq] at E
    have e1 : (10000 : Int) - (p : Int) = (q : Int) := by omega
    have r1 : wrap64 (q : Int) = (q : Int) := by rw [← IntWalk.i64_left]; exact IntWalk.i64_in _ (by omega)
    have hpq : p + q ≤ 10000 := by omega
    have q1 : (q : Int) ≤ 10000 := by omega
    have p1 : (p : Int) ≤ 10000 := by omega
    clear hq
    have T := Lib.hid (term_any n k p q w (by omega) (by omega) hpq)
    have H := Lib.hid h
    rw [h] at C
    clear h h1 h2 h3 h4
    rw [E.out, H.out]
    go_enter Try.func22, Try.ntmps22
    go_wp2_with (first
      | (go_at_call 51; with_reducible refine SH.out.mono ?_; rintro e w1 ⟨rfl, rfl⟩)
      | (go_at_call 50; with_reducible refine C.out.mono ?_; rintro e w1 ⟨rfl, rfl⟩)
      | (go_at_call 52; with_reducible refine T.out.mono ?_; intro e w1 hq; obtain ⟨x1, k1, c1, rfl, D1, b1⟩ := Num.out hq))
    go_ret2
    exact ⟨_, _, _, rfl, D1, b1⟩
  · have E : Hid (valX n k p = 0) := by show _ = _; unfold valX; rw [if_neg h]
    obtain ⟨c, hc⟩ : ∃ c, c = chk n k (shB p) := ⟨_, rfl⟩
    rw [← hc] at C h ⊢
    rw [E.out]
    have h0 : (c == 0) = false := by rw [beq_eq_false_iff_ne]; exact h
    clear hc h
    go_enter Try.func22, Try.ntmps22
    go_wp2_with (first
      | (go_at_call 51; with_reducible refine SH.out.mono ?_; rintro e w1 ⟨rfl, rfl⟩)
      | (go_at_call 50; with_reducible refine C.out.mono ?_; rintro e w1 ⟨rfl, rfl⟩))
    go_ret2
    exact ⟨_, _, _, rfl, Dg.nil _, Below.refl _ _⟩
set_option maxHeartbeats 1600000 in
theorem upper_any (n k p : Int) (w : World) : Calls Try.prog 28 #[.int .i64 n, .int .i64 k, .int .i64 p] w (NumE (valU n k p) (chk n k (shB p)) w) := by
  have SH := Lib.hid (share_any p w)
  have C := Lib.hid (check_any n k (shB p) w)
  by_cases h : chk n k (shB p) = 0
  · obtain ⟨h1, h2, h3, h4⟩ := chk_zero h
    obtain ⟨n, rfl⟩ : ∃ m : Nat, n = m := ⟨n.toNat, by omega⟩
    obtain ⟨k, rfl⟩ : ∃ m : Nat, k = m := ⟨k.toNat, by omega⟩
    obtain ⟨p, rfl, hp⟩ := share_nat h4
    have E : Hid (valU n k p = Bn.Up n k p) := by show _ = _; unfold valU; rw [if_pos h]; rfl
    have T := Lib.hid (orMore_any n k p w (by omega) (by omega) hp)
    have H := Lib.hid h
    rw [h] at C
    clear h h1 h2 h3 h4
    rw [E.out, H.out]
    go_enter Try.func28, Try.ntmps28
    go_wp2_with (first
      | (go_at_call 51; with_reducible refine SH.out.mono ?_; rintro e w1 ⟨rfl, rfl⟩)
      | (go_at_call 50; with_reducible refine C.out.mono ?_; rintro e w1 ⟨rfl, rfl⟩)
      | (go_at_call 57; with_reducible refine T.out.mono ?_; intro e w1 hq; obtain ⟨x1, k1, c1, rfl, D1, b1⟩ := Num.out hq))
    go_ret2
    exact ⟨_, _, _, rfl, D1, b1⟩
  · have E : Hid (valU n k p = 0) := by show _ = _; unfold valU; rw [if_neg h]
    obtain ⟨c, hc⟩ : ∃ c, c = chk n k (shB p) := ⟨_, rfl⟩
    rw [← hc] at C h ⊢
    rw [E.out]
    have h0 : (c == 0) = false := by rw [beq_eq_false_iff_ne]; exact h
    clear hc h
    go_enter Try.func28, Try.ntmps28
    go_wp2_with (first
      | (go_at_call 51; with_reducible refine SH.out.mono ?_; rintro e w1 ⟨rfl, rfl⟩)
      | (go_at_call 50; with_reducible refine C.out.mono ?_; rintro e w1 ⟨rfl, rfl⟩))
    go_ret2
    exact ⟨_, _, _, rfl, Dg.nil _, Below.refl _ _⟩
set_option maxHeartbeats 1600000 in
theorem lower_any (n k p : Int) (w : World) : Calls Try.prog 29 #[.int .i64 n, .int .i64 k, .int .i64 p] w (NumE (valL n k p) (chk n k (shB p)) w) := by
  have SH := Lib.hid (share_any p w)
  have C := Lib.hid (check_any n k (shB p) w)
  by_cases h : chk n k (shB p) = 0
  · obtain ⟨h1, h2, h3, h4⟩ := chk_zero h
    obtain ⟨n, rfl⟩ : ∃ m : Nat, n = m := ⟨n.toNat, by omega⟩
    obtain ⟨k, rfl⟩ : ∃ m : Nat, k = m := ⟨k.toNat, by omega⟩
    obtain ⟨p, rfl, hp⟩ := share_nat h4
    have E : Hid (valL n k p = Bn.S p (10000 - p) n (k + 1)) := by show _ = _; unfold valL; rw [if_pos h]; rfl
    have T := Lib.hid (orFewer_any n k p w (by omega) (by omega) hp)
    have H := Lib.hid h
    rw [h] at C
    clear h h1 h2 h3 h4
    rw [E.out, H.out]
    go_enter Try.func29, Try.ntmps29
    go_wp2_with (first
      | (go_at_call 51; with_reducible refine SH.out.mono ?_; rintro e w1 ⟨rfl, rfl⟩)
      | (go_at_call 50; with_reducible refine C.out.mono ?_; rintro e w1 ⟨rfl, rfl⟩)
      | (go_at_call 59; with_reducible refine T.out.mono ?_; intro e w1 hq; obtain ⟨x1, k1, c1, rfl, D1, b1⟩ := Num.out hq))
    go_ret2
    exact ⟨_, _, _, rfl, D1, b1⟩
  · have E : Hid (valL n k p = 0) := by show _ = _; unfold valL; rw [if_neg h]
    obtain ⟨c, hc⟩ : ∃ c, c = chk n k (shB p) := ⟨_, rfl⟩
    rw [← hc] at C h ⊢
    rw [E.out]
    have h0 : (c == 0) = false := by rw [beq_eq_false_iff_ne]; exact h
    clear hc h
    go_enter Try.func29, Try.ntmps29
    go_wp2_with (first
      | (go_at_call 51; with_reducible refine SH.out.mono ?_; rintro e w1 ⟨rfl, rfl⟩)
      | (go_at_call 50; with_reducible refine C.out.mono ?_; rintro e w1 ⟨rfl, rfl⟩))
    go_ret2
    exact ⟨_, _, _, rfl, Dg.nil _, Below.refl _ _⟩
end Go.Proofs.Ytjfopggpohakkaa
