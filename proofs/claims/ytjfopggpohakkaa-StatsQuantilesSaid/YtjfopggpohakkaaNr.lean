/- Contract of Pow. -/
import Derived.Test.YtjfopggpohakkaaNq
namespace Go.Proofs.Ytjfopggpohakkaa
open Go.RowKit

/-- What Pow answers. -/
def Nt.powR (l : List Nat) (n : Int) : List Nat × Int := if Nt.rg l = true ∧ 0 ≤ n then Nt.numR (Nt.val l ^ n.toNat) else ([], 2)
theorem top_big : 1 < Nt.top := by
  obtain ⟨k, hk⟩ : ∃ k, k = 1024 := ⟨_, rfl⟩
  rw [Nt.top_pow hk]
  exact Nat.one_lt_pow (by omega) (by decide)
theorem pow_up {x a b T : Nat} (h : a ≤ b) (hT : 1 < T) (hx : T ≤ x ^ a) : T ≤ x ^ b := by
  have h0 : 0 < x := by
    refine Nat.pos_of_ne_zero fun c => ?_
    subst c
    cases a with
    | zero => rw [Nat.pow_zero] at hx; omega
    | succ a => rw [Nat.pow_succ, Nat.mul_zero] at hx; omega
  exact Nat.le_trans hx (Nat.pow_le_pow_right h0 h)
/-- The state of Pow's loop: so many bits are left. -/
def PwI (l : List Nat) (n k : Nat) (w wr : World) (v : Value) (e : Int) : Prop :=
  Below w.heap.size w wr ∧ ((e = 0 ∧ Nt.val l ^ (n / 2 ^ k) < Nt.top ∧ Lm wr v (Nt.dig (Nt.val l ^ (n / 2 ^ k)))) ∨ (e = 3 ∧ Nt.top ≤ Nt.val l ^ n ∧ Lm wr v []))
theorem half_pow (n j : Nat) : n / 2 ^ j = 2 * (n / 2 ^ (j + 1)) + n / 2 ^ j % 2 := by
  rw [Nat.pow_succ, ← Nat.div_div_eq_div_mul]
  omega
theorem PwI.done {l : List Nat} {n k : Nat} {w wr : World} {v : Value} {e : Int} (h : PwI l n k w wr v e) (hk : k = 0 ∨ e ≠ 0) : (Nt.numR (Nt.val l ^ n)).2 = e ∧ Lm wr v (Nt.numR (Nt.val l ^ n)).1 := by
  obtain ⟨_, ⟨e0, h1, h2⟩ | ⟨e3, h1, h2⟩⟩ := h
  · rcases hk with hk | hk
    · subst hk
      rw [Nat.pow_zero, Nat.div_one] at h1 h2
      unfold Nt.numR; rw [if_pos h1]
      exact ⟨e0.symm, h2⟩
    · exact absurd e0 hk
  · unfold Nt.numR
    rw [if_neg (Nat.not_lt.2 h1)]
    exact ⟨e3.symm, h2⟩
theorem mul_dig {x y : Nat} (hx : x < Nt.top) (hy : y < Nt.top) : Nt.mulR (Nt.dig x) (Nt.dig y) = Nt.numR (x * y) := by
  rw [mul_numR (Nt.rg_yes hx) (Nt.rg_yes hy), Nt.val_dig, Nt.val_dig]
theorem pow_start {n k : Nat} (h : n < 2 ^ k) : n / 2 ^ k = 0 := Nat.div_eq_of_lt h
theorem and_one64 (x : Nat) (hx : x < 9223372036854775808) : bits BinOp.and IntKind.i64 (x : Int) 1 = ((x % 2 : Nat) : Int) := by
  have h1 : (BitVec.ofInt 64 (x : Int)).toNat = x := by
    rw [BitVec.ofInt_natCast, BitVec.toNat_ofNat]; exact Nat.mod_eq_of_lt (by omega)
  have h2 : (BitVec.ofInt 64 (1 : Int)).toNat = 1 := rfl
  show IntKind.i64.wrap ((BitVec.ofInt 64 (x : Int) &&& BitVec.ofInt 64 (1 : Int)).toNat : Int) = _
  rw [BitVec.toNat_and, h1, h2, Nat.and_one_is_mod]
  have h3 : x % 2 < 2 := Nat.mod_lt _ (by decide)
  generalize x % 2 = y at h3
  have : y = 0 ∨ y = 1 := by omega
  rcases this with rfl | rfl <;> rfl
theorem bit_is (n j : Nat) (hn : n < 9223372036854775808) : (bits BinOp.and IntKind.i64 ((n : Int) / 2 ^ j) 1 == 1) = decide (n / 2 ^ j % 2 = 1) := by
  have e : (n : Int) / 2 ^ j = ((n / 2 ^ j : Nat) : Int) := by rw [Int.natCast_ediv, Int.natCast_pow]; rfl
  rw [e, and_one64 _ (Nat.lt_of_le_of_lt (Nat.div_le_self _ _) hn)]
  by_cases c : n / 2 ^ j % 2 = 1
  · rw [c]; rfl
  · rw [decide_eq_false c, show n / 2 ^ j % 2 = 0 by omega]; rfl
theorem PwI.num {l : List Nat} {n j : Nat} {w w' : World} {v' : Value} {e : Int} {Y : Nat} (hb : Below w.heap.size w w') (hY : Y = Nt.val l ^ (n / 2 ^ j)) (he : (Nt.numR Y).2 = e) (hl : Lm w' v' (Nt.numR Y).1) : PwI l n j w w' v' e := by
  refine ⟨hb, ?_⟩
  by_cases c : Y < Nt.top
  · have e1 : Nt.numR Y = (Nt.dig Y, 0) := by unfold Nt.numR; rw [if_pos c]
    rw [e1] at he hl
    subst hY
    exact Or.inl ⟨he.symm, c, hl⟩
  · have e1 : Nt.numR Y = ([], 3) := by unfold Nt.numR; rw [if_neg c]
    rw [e1] at he hl
    refine Or.inr ⟨he.symm, ?_, hl⟩
    rw [hY] at c
    exact pow_up (Nat.div_le_self _ _) top_big (Nat.not_lt.1 c)
theorem PwI.over {l : List Nat} {n j q : Nat} {w w' : World} {v' : Value} (hb : Below w.heap.size w w') (hq : q ≤ n) (hY : Nt.top ≤ Nt.val l ^ q) (hl : Lm w' v' []) : PwI l n j w w' v' 3 :=
  ⟨hb, Or.inr ⟨rfl, pow_up hq top_big hY, hl⟩⟩
theorem PwI.shape {l : List Nat} {n k : Nat} {w wr : World} {v : Value} {e : Int} (h : PwI l n k w wr v e) : ∃ a m c, v = .slice a m c := by
  obtain ⟨_, ⟨_, _, h⟩ | ⟨_, _, h⟩⟩ := h
  · obtain ⟨a, c, e, _⟩ := h; exact ⟨a, _, c, e⟩
  · obtain ⟨a, c, e, _⟩ := h; exact ⟨a, _, c, e⟩
set_option maxRecDepth 100000 in
set_option maxHeartbeats 3200000 in
theorem pow_yes (a : Option Addr) (m c : Nat) (l : List Nat) (n : Nat) (w : World) (LV : Hid (Lm w (.slice a m c) l)) (hrl : Nt.rg l = true) (hn : n < 9223372036854775808) :
    Calls Try.prog 33 #[.slice a m c, .int .i64 (n : Nat)] w fun e w' => ∃ a n2 c e2, e = .returned (.tuple #[.slice a n2 c, .int .i64 e2]) ∧ (Nt.numR (Nt.val l ^ n)).2 = e2 ∧ Lm w' (.slice a n2 c) (Nt.numR (Nt.val l ^ n)).1 ∧ Below w.heap.size w w' := by
  have R := Lib.hid (right_b3 _ l true w LV.out hrl)
  have OF : Hid (Calls Try.prog 34 #[.int .u64 1] w fun e w' => ∃ a k c, e = .returned (.slice a k c) ∧ Lm w' (.slice a k c) (Nt.dig 1) ∧ Below w.heap.size w w') := of3_any 1 w (by decide) (by decide)
  obtain ⟨k, hk, hk2, -⟩ := blen_any n w hn
  have BL := Lib.hid (fun w2 => (blen_any n w2 hn))
  have HR := Lib.hid hrl
  have W1 : IntKind.u64.wrap (n : Int) = (n : Int) := u64_in n (by omega)
  clear hrl hk hk2
  go_enter Try.func33, Try.ntmps33
  go_wp2_with (first
    | (go_at_call 60; with_reducible refine R.out.mono ?_; rintro e w2 ⟨rfl, rfl⟩)
    | (go_at_call 34; with_reducible refine OF.out.mono ?_; rintro e w2 ⟨a2, n2, c2, rfl, l2, b2⟩; have L2 := Lib.hid l2; have B2 := Lib.hid b2; clear l2 b2)
    | (go_at_call 64; obtain ⟨k, hk, hk2, B⟩ := BL.out w2; have K2 := Lib.hid hk2; with_reducible refine B.mono ?_; rintro e w3 ⟨rfl, rfl⟩; clear B hk2))
  have J0 : Hid (PwI l n k w w2 (.slice a2 n2 c2) 0) := by
    refine PwI.num (Y := 1) B2.out ?_ ?_ ?_
    · rw [pow_start K2.out, Nat.pow_zero]
    · unfold Nt.numR; rw [if_pos top_big]
    · unfold Nt.numR; rw [if_pos top_big]; exact L2.out
  go_loopw [6, 7, 8] (fun pv ev bv wr => ∃ (k : Nat) (e : Int), k ≤ 64 ∧ bv = .int .i64 ((k : Int) - 1) ∧ ev = .int .i64 e ∧ Hid (PwI l n k w wr pv e)) (fun _ _ bv _ => (intOf bv + 2).toNat)
  case atStart => exact ⟨k, 0, hk, rfl, rfl, J0⟩
  case round =>
    clear J0 L2 B2 K2 hk
    obtain ⟨k, e, hk, rfl, rfl, J⟩ := hrel
    obtain ⟨pa, pm, pc, rfl⟩ := J.out.shape
    by_cases he : e = 0
    · subst he
      by_cases hk0 : k = 0
      · subst hk0
        obtain ⟨d1, d2⟩ := J.out.done (Or.inl rfl)
        have D1 := Lib.hid d1
        have D2 := Lib.hid d2
        clear d1 d2
        go_wp2
        go_ret2
        exact ⟨_, _, _, _, rfl, D1.out, D2.out, J.out.1⟩
      · obtain ⟨j, rfl⟩ : ∃ j, k = j + 1 := ⟨k - 1, by omega⟩
        have ej : ((j + 1 : Nat) : Int) - 1 = (j : Int) := by omega
        obtain ⟨hb, ⟨_, h1, h2⟩ | ⟨h0, _⟩⟩ := J.out
        · obtain ⟨X, hX⟩ : ∃ X, X = Nt.val l ^ (n / 2 ^ (j + 1)) := ⟨_, rfl⟩
          rw [← hX] at h1 h2
          have HP := half_pow n j
          have M1 := Lib.hid (mul3_any _ _ _ _ wr h2 h2)
          rw [mul_dig h1 h1] at M1
          have HB := Lib.hid hb
          have HX := Lib.hid hX
          have BT := bit_is n j hn
          have Q2 : 2 * (n / 2 ^ (j + 1)) ≤ n := by have := Nat.div_le_self n (2 ^ j); omega
          have E2 : X * X = Nt.val l ^ (2 * (n / 2 ^ (j + 1))) := by rw [hX, ← Nat.pow_add]; congr 1; omega
          by_cases c1 : X * X < Nt.top
          · have e1 : Nt.numR (X * X) = (Nt.dig (X * X), 0) := by unfold Nt.numR; rw [if_pos c1]
            rw [e1] at M1
            by_cases hbit : n / 2 ^ j % 2 = 1
            · rw [decide_eq_true hbit] at BT
              have M2 : Hid (∀ w4 v4, Lm w4 v4 (Nt.dig (X * X)) → Below wr.heap.size wr w4 → Calls Try.prog 35 #[v4, .slice a m c] w4 fun e w' => ∃ a n2 c e2, e = .returned (.tuple #[.slice a n2 c, .int .i64 e2]) ∧ Hid (PwI l n j w w' (.slice a n2 c) e2)) := by
                intro w4 v4 h4 b4
                have b5 := HB.out.trans (b4.mono HB.out.size)
                refine (mul3_any v4 _ _ l w4 h4 (LV.out.below b5)).mono ?_
                rintro e w' ⟨a5, n5, c5, rfl, l5, b6⟩
                have em : Nt.mulR (Nt.dig (X * X)) l = Nt.numR (X * X * Nt.val l) := by
                  rw [mul_numR (Nt.rg_yes c1) HR.out, Nt.val_dig]
                rw [em] at l5 ⊢
                refine ⟨a5, n5, c5, _, rfl, (PwI.num (b5.trans (b6.mono b5.size)) ?_ rfl l5 : PwI _ _ _ _ _ _ _)⟩
                rw [E2, ← Nat.pow_succ, HP, hbit]
              clear h1 h2 hX e1 hb hbit E2
              rw [ej]
              go_wp2_with (first
                | (go_at_call 35; with_reducible refine M1.out.mono ?_; rintro e w4 ⟨a4, n4, c4, rfl, l4, b4⟩; have L4 := Lib.hid l4; have B4 := Lib.hid b4; clear l4 b4)
                | (go_at_call 35; with_reducible refine (M2.out w4 _ L4.out B4.out).mono ?_; rintro e w5 ⟨a5, n5, c5, e5, rfl, J5⟩))
              refine ⟨⟨j, _, by omega, rfl, rfl, J5⟩, ?_⟩
              simp [intOf]; omega
            · rw [decide_eq_false hbit] at BT
              have P0 : Hid (∀ w4 v4, Lm w4 v4 (Nt.dig (X * X)) → Below wr.heap.size wr w4 → PwI l n j w w4 v4 0) := by
                intro w4 v4 h4 b4
                refine PwI.num (Y := X * X) (HB.out.trans (b4.mono HB.out.size)) ?_ (by rw [e1]) (by rw [e1]; exact h4)
                rw [E2, HP]; congr 1; omega
              clear h1 h2 hX e1 hb hbit E2
              rw [ej]
              go_wp2_with (go_at_call 35; with_reducible refine M1.out.mono ?_; rintro e w4 ⟨a4, n4, c4, rfl, l4, b4⟩; have J4 := Lib.hid (P0.out w4 _ l4 b4); clear l4 b4)
              refine ⟨⟨j, _, by omega, rfl, rfl, J4⟩, ?_⟩
              simp [intOf]; omega
          · have e1 : Nt.numR (X * X) = ([], 3) := by unfold Nt.numR; rw [if_neg c1]
            rw [e1] at M1
            have P0 : Hid (∀ w4 v4, Lm w4 v4 [] → Below wr.heap.size wr w4 → PwI l n j w w4 v4 3) := by
              intro w4 v4 h4 b4
              exact PwI.over (HB.out.trans (b4.mono HB.out.size)) Q2 (by rw [← E2]; exact Nat.not_lt.1 c1) h4
            clear h1 h2 hX e1 hb E2 BT
            rw [ej]
            go_wp2_with (go_at_call 35; with_reducible refine M1.out.mono ?_; rintro e w4 ⟨a4, n4, c4, rfl, l4, b4⟩; have J4 := Lib.hid (P0.out w4 _ l4 b4); clear l4 b4)
            refine ⟨⟨j, _, by omega, rfl, rfl, J4⟩, ?_⟩
            simp [intOf]; omega
        · exact absurd h0 (by decide)
    · obtain ⟨d1, d2⟩ := J.out.done (Or.inr he)
      have D1 := Lib.hid d1
      have D2 := Lib.hid d2
      have sb : (e == 0) = false := by rw [beq_eq_false_iff_ne]; exact he
      clear d1 d2
      by_cases hk0 : k = 0
      · subst hk0
        go_wp2
        go_ret2
        exact ⟨_, _, _, _, rfl, D1.out, D2.out, J.out.1⟩
      · obtain ⟨j, rfl⟩ : ∃ j, k = j + 1 := ⟨k - 1, by omega⟩
        have ej : ((j + 1 : Nat) : Int) - 1 = (j : Int) := by omega
        rw [ej]
        go_wp2
        go_ret2
        exact ⟨_, _, _, _, rfl, D1.out, D2.out, J.out.1⟩
end Go.Proofs.Ytjfopggpohakkaa
