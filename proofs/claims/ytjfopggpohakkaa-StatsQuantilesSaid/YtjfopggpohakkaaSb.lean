/- Contract of the iterator over the terms. -/
import Derived.Test.YtjfopggpohakkaaRf
import Derived.Test.YtjfopggpohakkaaSa
import Derived.Deep.RegionHeld3
namespace Go.Proofs.Ytjfopggpohakkaa
open Go.RowKit Go.Shelf
attribute [local go_sem] Oper.semAt_some

theorem top_W {x y : Nat} (hx : x ≤ 500) (hy : y ≤ 100000000) : y * 10000 ^ x < Nt.top := by
  obtain ⟨k, hk⟩ : ∃ k, k = 1024 := ⟨_, rfl⟩
  rw [Nt.top_pow hk]
  have h1 : y * 10000 ^ x ≤ 10000 ^ 2 * 10000 ^ x := Nat.mul_le_mul_right _ (by omega)
  rw [← Nat.pow_add] at h1
  have h2 : (10000 : Nat) ^ (2 + x) ≤ Nt.B ^ (2 + x) := Nat.pow_le_pow_left (by decide) _
  have h3 : Nt.B ^ (2 + x) < Nt.B ^ k := Nat.pow_lt_pow_right (by decide) (by omega)
  omega
theorem pow_W {x a b : Nat} (h : a + b ≤ 10000) : (a + b) ^ x ≤ 10000 ^ x := Nat.pow_le_pow_left h x
theorem T_W {n k a b : Nat} (h : a + b ≤ 10000) : Bn.T a b n k ≤ 10000 ^ n := Nat.le_trans (Bn.T_le a b n k) (pow_W h)
theorem S_W {n k a b : Nat} (h : a + b ≤ 10000) : Bn.S a b n k ≤ 10000 ^ n := Nat.le_trans (Bn.S_top a b n k) (pow_W h)
theorem T_top {n k a b y : Nat} (hn : n ≤ 500) (h : a + b ≤ 10000) (hy : y ≤ 100000000) : y * Bn.T a b n k < Nt.top :=
  Nat.lt_of_le_of_lt (Nat.mul_le_mul_left y (T_W h)) (top_W hn hy)
theorem S_top {n k a b y : Nat} (hn : n ≤ 500) (h : a + b ≤ 10000) (hy : y ≤ 100000000) : y * Bn.S a b n k < Nt.top :=
  Nat.lt_of_le_of_lt (Nat.mul_le_mul_left y (S_W h)) (top_W hn hy)
/-- What a round keeps: all cells but those of block g, and all numbers. -/
structure Kg (g : Nat) (V V' : World) : Prop where
  cell : ∀ (p : Addr) (v : Value), p.block ≠ g → V.cell? p = some v → V'.cell? p = some v
  dg : ∀ v x, Dg V v x → Dg V' v x
theorem Kg.trans {g : Nat} {A B C : World} (h : Kg g A B) (k : Kg g B C) : Kg g A C := ⟨fun p v hp e => k.cell p v hp (h.cell p v hp e), fun v x d => k.dg v x (h.dg v x d)⟩
theorem grown_of {V V' : World} (h : Below V.heap.size V V') : V.grownBy V' none := ⟨h.os, h.tape, h.output, h.size, fun k hk _ => h.block k hk⟩
theorem kept_cell {V V' : World} {p : Addr} {v : Value} (hb : Below V.heap.size V V') (h : V.cell? p = some v) : V'.cell? p = some v := (hb.cell (World.block_lt_of_cell? _ _ h)).trans h
/-- What the iterator hands over. -/
def enc2 (k : Nat) (v : Value) : Array Value := #[.int .i64 k, v]
def OkT (a b n k : Nat) (v : Value) (V : World) : Prop := ∃ x m c, v = .slice x m c ∧ Dg V v (Bn.T a b n k)
theorem chain5 {A B C : World} (b5 : Below A.drew.heap.size A.drew B) (b6 : Below B.heap.size B C) : Below A.heap.size A C := ((Below.drew (Below.refl A.heap.size A)).trans b5).trans (b6.mono b5.size)
set_option maxRecDepth 100000 in
set_option maxHeartbeats 3200000 in
theorem terms1_hands (n : Nat) (hn : 1 ≤ n) (a b N g Bb Bn' Ba : Nat) (hN : N ≤ 500) (hab : a + b ≤ 10000) (w : World) (cb : w.cell? ⟨Bb, 0, none⟩ = some (.int .i64 b)) (cn : w.cell? ⟨Bn', 0, none⟩ = some (.int .i64 N)) (ca : w.cell? ⟨Ba, 0, none⟩ = some (.int .i64 a))
    (gb : Bb ≠ g) (gn : Bn' ≠ g) (ga : Ba ≠ g) : Hands n Try.prog 93 #[.pointer (some ⟨Bb, 0, none⟩), .pointer (some ⟨Bn', 0, none⟩), .pointer (some ⟨Ba, 0, none⟩)] enc2 (OkT a b N) (Kg g) (N + 1) w := by
  intro l J X W hW hJ hY h0
  have cb1 := kept_cell hW cb
  have cn1 := kept_cell hW cn
  have ca1 := kept_cell hW ca
  have P0 := Lib.hid (power_any b N W (by omega) (by omega) (by
    have h1 := top_W (x := N) (y := 1) hN (by omega)
    have h2 : b ^ N ≤ 10000 ^ N := Nat.pow_le_pow_left (by omega) N
    omega))
  have HJ := Lib.hid hJ
  have HY := Lib.hid hY
  clear hJ hY
  refine callsIn_of_wp Try.func93 rfl trivial ?_ rfl
  simp only [Try.ntmps93, List.size_toArray, List.length_cons, List.length_nil, Nat.reduceAdd, Nat.reduceSub, Array.replicate_succ, Array.replicate_zero, List.push_toArray, List.append_toArray, List.nil_append, List.cons_append]
  refine wpIn_wide.2 ?_
  go_wp2_with (go_at_call 79; refine P0.out.mono ?_; intro e w1 hq; obtain ⟨x1, k1, c1, rfl, D1, b1⟩ := Num.out hq)
  have J1 : J 0 w1 := HJ.out 0 W w1 none h0 (grown_of b1) (fun r e => by cases e)
  have cb2 := kept_cell b1 cb1
  have cn2 := kept_cell b1 cn1
  have ca2 := kept_cell b1 ca1
  rw [← Bn.T_zero a b N] at D1
  have DH := Lib.hid D1
  clear cb cn ca cb1 cn1 ca1 D1 P0
  refine (wpIn_wide (n := n)).1 ?_
  gi_loopw [5, 6] (fun v i wr => ∃ (k : Nat) (x : Option Addr) (m c : Nat), k ≤ N ∧ i = .int .i64 k ∧ v = .slice x m c ∧ Hid (Dg wr (.slice x m c) (Bn.T a b N k)) ∧ Hid (J k wr) ∧ wr.cell? ⟨Bb, 0, none⟩ = some (.int .i64 b) ∧ wr.cell? ⟨Bn', 0, none⟩ = some (.int .i64 N) ∧ wr.cell? ⟨Ba, 0, none⟩ = some (.int .i64 a)) (fun _ i _ => N + 1 - (intOf i).toNat)
  case atStart => exact ⟨0, x1, k1, c1, Nat.zero_le _, rfl, rfl, DH, J1, cb2, cn2, ca2⟩
  case round =>
    obtain ⟨k, x, m, c, hk, rfl, rfl, DK, JK, cb3, cn3, ca3⟩ := hrel
    obtain ⟨fn, tmps, assign, body, hy, hR⟩ := HY.out k (.slice x m c) wr (by omega) JK.out ⟨x, m, c, rfl, DK.out⟩
    dsimp only [enc2] at hy
    have hfY : Fence.wide.depth.isSome = true → 1 ≤ n := fun _ => hn
    have HB := Lib.hid hab
    clear hab
    by_cases hlt : k < N
    · have dk : decide ((k : Int) < (N : Int)) = true := decide_eq_true (by omega)
      gi_wp2
      refine hR.mono ?_
      rintro e W3 (⟨rfl, J3, K3⟩ | ⟨rfl, X3⟩)
      · have cb4 := K3.cell ⟨Bb, 0, none⟩ _ gb cb3
        have cn4 := K3.cell ⟨Bn', 0, none⟩ _ gn cn3
        have ca4 := K3.cell ⟨Ba, 0, none⟩ _ ga ca3
        have D4 := Lib.hid (K3.dg _ _ DK.out)
        have J4 := Lib.hid J3
        clear K3 J3 hR hy cb3 cn3 ca3
        by_cases b0 : 0 < b
        · have db : decide ((0 : Int) < (b : Int)) = true := decide_eq_true (by omega)
          gi_wp2
          refine wpIn_wide.2 ?_
          obtain ⟨d, hd⟩ : ∃ d, d = N - k := ⟨_, rfl⟩
          obtain ⟨f, hf⟩ : ∃ f, f = d * a := ⟨_, rfl⟩
          obtain ⟨q, hq⟩ : ∃ q, q = (k + 1) * b := ⟨_, rfl⟩
          have fb : f ≤ 5000000 := by rw [hf]; exact Nat.le_trans (Nat.mul_le_mul (show d ≤ 500 by omega) (show a ≤ 10000 by have := HB.out; omega)) (by decide)
          have qb : q ≤ 5000000 := by rw [hq]; exact Nat.le_trans (Nat.mul_le_mul (show k + 1 ≤ 500 by omega) (show b ≤ 10000 by have := HB.out; omega)) (by decide)
          have q0 : 0 < q := by rw [hq]; exact Nat.mul_pos (by omega) b0
          have tk : Bn.T a b N k < Nt.top := by have := T_top (k := k) (y := 1) hN HB.out (by omega); omega
          have tf : f * Bn.T a b N k < Nt.top := T_top hN HB.out (by omega)
          have PR := Lib.hid (fun W' (h : Dg W' (.slice x m c) (Bn.T a b N k)) => product_any f _ _ W' h (by omega) tk tf)
          have QU : Hid (∀ v W', Dg W' v (f * Bn.T a b N k) → Calls Try.prog 94 #[v, .int .i64 q] W' (Num (Bn.T a b N (k + 1)) W')) := fun v W' h => by
            have := quotient_any q _ v W' h (by omega) q0 tf
            have e := Bn.ratio' a b N k hk
            rw [← hd, ← hf, ← hq] at e
            rw [e, Nat.mul_div_cancel_left _ q0] at this; exact this
          have e1 : (N : Int) - (k : Int) = (d : Int) := by omega
          have e2 : (d : Int) * (a : Int) = (f : Int) := by rw [hf]; exact (Int.natCast_mul d a).symm
          have e3 : ((k : Int) + 1) * (b : Int) = (q : Int) := by rw [hq, Int.natCast_mul]; rfl
          have f1 : (f : Int) ≤ 5000000 := by omega
          have q1 : (q : Int) ≤ 5000000 := by omega
          have d1 : (d : Int) ≤ 500 := by omega
          have a1 : (a : Int) ≤ 10000 := by have := HB.out; omega
          have b1 : (b : Int) ≤ 10000 := by have := HB.out; omega
          have n1 : (N : Int) ≤ 500 := by omega
          have k1 : (k : Int) ≤ 500 := by omega
          have r1 : IntKind.i64.wrap (d : Int) = (d : Int) := IntWalk.i64_in _ (by omega)
          have r2 : IntKind.i64.wrap (f : Int) = (f : Int) := IntWalk.i64_in _ (by omega)
          have r3 : IntKind.i64.wrap ((k : Int) + 1) = (k : Int) + 1 := IntWalk.i64_in _ (by omega)
          have r4 : IntKind.i64.wrap (q : Int) = (q : Int) := IntWalk.i64_in _ (by omega)
          clear hd hf hq tk tf fb qb q0
          go_region_with (first
            | (go_at_call 78; (with_reducible refine (PR.out _ (by first | exact D4.out | exact Dg.drew D4.out)).mono ?_); intro e w5 hq; obtain ⟨x5, k5, c5, rfl, D5, b5⟩ := Num.out hq; have cb5 := kept_cell b5 (by simpa using cb4))
            | (go_at_call 94; (with_reducible refine (QU.out _ _ (by repeat (first | (with_reducible exact D5) | (with_reducible refine Dg.drew ?_)))).mono ?_); intro e w6 hq; obtain ⟨x6, k6, c6, rfl, D6, b6⟩ := Num.out hq))
          all_goals (gi_wp2; go_roundw; (case rel => have bb := chain5 b5 b6; exact ⟨k + 1, x6, k6, c6, by omega, by go_num, rfl, D6, HJ.out _ _ _ none J4.out (grown_of bb) (fun r e => by cases e), kept_cell bb cb4, kept_cell bb cn4, kept_cell bb ca4⟩); (case measure => (simp [intOf]; omega)))
        · have ZB : Hid (b = 0) := by show _ = _; omega
          have db : decide (0 < b) = false := decide_eq_false b0
          clear b0
          have r3 : IntKind.i64.wrap ((k : Int) + 1) = (k : Int) + 1 := IntWalk.i64_in _ (by omega)
          by_cases kN : k + 1 = N
          · have eN : ((k : Int) + 1 == (N : Int)) = true := by rw [beq_iff_eq]; omega
            have PA := Lib.hid (power_any a N W3 (by have := HB.out; omega) (by omega) (by
              have h1 := top_W (x := N) (y := 1) hN (by omega)
              have h2 : a ^ N ≤ 10000 ^ N := Nat.pow_le_pow_left (by have := HB.out; omega) N
              omega))
            have TT := Lib.hid (Bn.T_top a b N)
            have hF : Fence.wide.fn 79 := trivial
            gi_wp2_with (gi_at_call 79; refine (callsIn_wide.2 PA.out).mono ?_; intro e w6 hq; obtain ⟨x6, k6, c6, rfl, D6, b6⟩ := Num.out hq)
            rw [← TT.out] at D6
            have D7 := Lib.hid D6
            clear D6
            go_roundw
            case rel => exact ⟨k + 1, x6, k6, c6, by omega, by go_num, rfl, (show Dg _ _ _ by rw [kN]; exact D7.out), HJ.out _ _ _ none J4.out (grown_of b6) (fun r e => by cases e), kept_cell b6 cb4, kept_cell b6 cn4, kept_cell b6 ca4⟩
            case measure => simp [intOf]; omega
          · have eN : ((k : Int) + 1 == (N : Int)) = false := by rw [beq_eq_false_iff_ne]; omega
            have D7 : Hid (Dg W3 (.slice x m c) (Bn.T a b N (k + 1))) := by
              have e1 := Bn.T_none a N k hlt
              have e2 := Bn.T_none a N (k + 1) (by omega)
              show Dg _ _ _
              rw [ZB.out, e2, ← e1, ← ZB.out]; exact D4.out
            gi_wp2
            go_roundw
            case rel => exact ⟨k + 1, x, m, c, by omega, by go_num, rfl, D7, J4.out, cb4, cn4, ca4⟩
            case measure => simp [intOf]; omega
      · gi_wp2
        go_end0
        exact ⟨⟨_, rfl⟩, .inr ⟨k, by omega, X3⟩⟩
    · obtain rfl : k = N := by omega
      gi_wp2
      refine hR.mono ?_
      rintro e W3 (⟨rfl, J3, K3⟩ | ⟨rfl, X3⟩)
      · have cn4 := K3.cell ⟨Bn', 0, none⟩ _ gn cn3
        gi_wp2
        go_end0
        exact ⟨⟨_, rfl⟩, .inl J3⟩
      · gi_wp2
        go_end0
        exact ⟨⟨_, rfl⟩, .inr ⟨k, by omega, X3⟩⟩
end Go.Proofs.Ytjfopggpohakkaa
