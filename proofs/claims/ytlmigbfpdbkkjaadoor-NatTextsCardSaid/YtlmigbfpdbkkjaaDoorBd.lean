/- The reference's add. -/
import Derived.Test.YtlmigbfpdbkkjaaDoorBc
namespace Go.Proofs.YtlmigbfpdbkkjaaDoor
open Go.RowKit

namespace Nt
/-- The sum of the lowest i bits of l and of m moved up. -/
def low (l m : List Nat) (up i : Nat) : Nat := bv (l.take i) + 2 ^ up * bv (m.take (i - up))
theorem low_ge {l m : List Nat} {up i : Nat} (h : up ≤ i) : low l m up (i + 1) = low l m up i + 2 ^ i * (l.getD i 0 + m.getD (i - up) 0) := by
  unfold low bv
  rw [Pos.val_take, show i + 1 - up = (i - up) + 1 by omega, Pos.val_take, Nat.mul_add, ← Nat.mul_assoc, ← Nat.pow_add, show up + (i - up) = i by omega, Nat.mul_add]
  omega
theorem low_lt {l m : List Nat} {up i : Nat} (h : ¬ up ≤ i) : low l m up (i + 1) = low l m up i + 2 ^ i * (l.getD i 0) := by
  unfold low bv
  rw [Pos.val_take, show i + 1 - up = 0 by omega, show i - up = 0 by omega]
  omega
theorem low_all {l m : List Nat} {up i : Nat} (h1 : l.length ≤ i) (h2 : m.length + up ≤ i) : low l m up i = bv l + 2 ^ up * bv m := by
  unfold low
  rw [List.take_of_length_le h1, List.take_of_length_le (by omega)]
theorem add_bit {M : List Nat} {c n V W s : Nat} (h : bv M + 2 ^ M.length * c = V) (hn : n = s + c) (hw : W = V + 2 ^ M.length * s) : bv (M ++ [n % 2]) + 2 ^ (M ++ [n % 2]).length * (n / 2) = W := by
  refine bits_round rfl ?_
  rw [hn, hw, ← h, Nat.mul_add]
  omega
theorem getD_out {l : List Nat} {j : Nat} (h : l.length ≤ j) : l.getD j 0 = 0 := by
  rw [List.getD_eq_getElem?_getD, List.getElem?_eq_none h]; rfl
end Nt

set_option maxRecDepth 100000 in
set_option maxHeartbeats 3200000 in
theorem radd_any (v u : Value) (l m : List Nat) (up : Nat) (w : World) (h : Bt w v l) (h' : Bt w u m) (hl : l.length ≤ 100000) (hm : m.length ≤ 100000) (hup : up ≤ 100000) :
    Calls Tryd.prog 53 #[v, u, .int .i64 up] w fun e w' => ∃ a n c, e = .returned (.slice a n c) ∧ Bt w' (.slice a n c) (Nt.bd (Nt.bv l + 2 ^ up * Nt.bv m)) ∧ Below w.heap.size w w' := by
  have A := Lib.hid (fun w' (b : Below w.heap.size w w') (j : Nat) => rat_any v l j w' (h.below b))
  have A' := Lib.hid (fun w' (b : Below w.heap.size w w') (j : Nat) => rat_any u m j w' (h'.below b))
  have BL := Lib.hid h.bits
  have BM := Lib.hid h'.bits
  obtain ⟨a, c, rfl, -, -, hcap, -⟩ := h
  obtain ⟨a', c', rfl, -, -, hcap', -⟩ := h'
  obtain ⟨na, hna⟩ : ∃ n, n = l.length := ⟨_, rfl⟩
  obtain ⟨nb, hnb⟩ : ∃ n, n = m.length := ⟨_, rfl⟩
  rw [← hna] at A hcap hl ⊢
  rw [← hnb] at A' hcap' hm ⊢
  have HA := Lib.hid hna
  have HB := Lib.hid hnb
  clear hna hnb
  go_enter Tryd.func53, Tryd.ntmps53
  go_wp2
  go_loopw [7, 8, 9] (fun out k i wr => ∃ (t y : Nat) (M : List Nat), t ≤ na + nb + up + 1 ∧ i = .int .i64 t ∧ k = .int .i64 y ∧ y < 2 ∧ (t = na + nb + up + 1 → y = 0) ∧ Hid (M.length = t) ∧ Hid (Nt.bv M + 2 ^ M.length * y = Nt.low l m up t) ∧ Ob w wr out M) (fun _ _ i _ => na + nb + up + 2 - (intOf i).toNat)
  case atStart => exact ⟨0, 0, [], Nat.zero_le _, rfl, rfl, Nat.succ_pos 1, fun _ => rfl, (show _ = _ from rfl), (show _ = _ by simp [Nt.low, Nt.bv, Pos.val_nil]), Ob.nil w⟩
  case round =>
    obtain ⟨t, y, M, ht, rfl, rfl, Y, last, ML, MV, O⟩ := hrel
    have LAST := Lib.hid last
    clear last
    have MB : Hid (M.length ≤ 1000000) := by show M.length ≤ _; rw [ML.out]; omega
    have X1 := Nt.bit_at BL.out t
    have Z1 := Nt.bit_at BM.out (t - up)
    obtain ⟨x, hx⟩ : ∃ x, x = l.getD t 0 := ⟨_, rfl⟩
    obtain ⟨z, hz⟩ : ∃ z, z = m.getD (t - up) 0 := ⟨_, rfl⟩
    have AX := Lib.hid (A.out _ O.bl t)
    have AZ := Lib.hid (fun w' (b : Below wr.heap.size wr w') => A'.out w' (O.bl.trans (b.mono O.bl.size)) (t - up))
    rw [← hx] at AX X1
    rw [← hz] at AZ Z1
    have HX := Lib.hid hx
    have HZ := Lib.hid hz
    clear hx hz
    by_cases p1 : t < na
    · by_cases p0 : up ≤ t
      · obtain ⟨d, hd⟩ : ∃ d, d = (x + y + z) % 2 := ⟨_, rfl⟩
        obtain ⟨q, hq⟩ : ∃ q, q = (x + y + z) / 2 := ⟨_, rfl⟩
        have e1 : ((x : Int) + (y : Int) + (z : Int)) % 2 = (d : Int) := by omega
        have e2 : ((x : Int) + (y : Int) + (z : Int)) / 2 = (q : Int) := by omega
        have d2 : d < 2 := by omega
        have q2 : q < 2 := by omega
        have MV' : Hid (Nt.bv (M ++ [d]) + 2 ^ (M ++ [d]).length * q = Nt.low l m up (t + 1)) := by rw [hd, hq]; exact Nt.add_bit (s := l.getD t 0 + m.getD (t - up) 0) MV.out (by have := HX.out; have := HZ.out; omega) (by rw [ML.out]; exact Nt.low_ge p0)
        have ML' : Hid ((M ++ [d]).length = t + 1) := by show _ = _; rw [List.length_append, ML.out]; rfl
        have tn : t ≤ na + nb + up := by have := LAST.out; omega
        have LAST' : Hid (t + 1 = na + nb + up + 1 → q = 0) := by
          intro e
          have e3 : x = 0 := by rw [HX.out]; exact Nt.getD_out (by rw [← HA.out]; omega)
          have e4 : z = 0 := by rw [HZ.out]; exact Nt.getD_out (by rw [← HB.out]; omega)
          (rw [hq, e3, e4]) <;> omega
        have tu : (t : Int) - (up : Int) = ((t - up : Nat) : Int) := by omega
        have pu : (up : Int) ≤ (t : Int) := by omega
        clear hd hq
        obtain ⟨tz, htz⟩ : ∃ tz, tz = t - up := ⟨_, rfl⟩
        rw [← htz] at AZ tu
        have HTZ := Lib.hid htz
        clear htz
        go_wp2_with (first | (go_at_call 52; (with_reducible refine AX.out.mono ?_); rintro e w1 ⟨rfl, rfl⟩) | (go_at_call 52; (with_reducible refine (AZ.out _ (Below.refl _ _)).mono ?_); rintro e w1 ⟨rfl, rfl⟩) | (at_builtin; refine wp_push rfl _ _ rfl _ M rfl (O.alloc _) d d2 _ _ rfl (laid_at _ _ _ _ rfl) MB.out ?_; intro v' w' O2))
        go_roundw
        case rel => exact ⟨t + 1, q, M ++ [d], by omega, by go_num, by rw [e2], q2, LAST'.out, ML', MV', O2⟩
        case measure => simp [intOf]; omega
      · obtain ⟨d, hd⟩ : ∃ d, d = (x + y) % 2 := ⟨_, rfl⟩
        obtain ⟨q, hq⟩ : ∃ q, q = (x + y) / 2 := ⟨_, rfl⟩
        have e1 : ((x : Int) + (y : Int)) % 2 = (d : Int) := by omega
        have e2 : ((x : Int) + (y : Int)) / 2 = (q : Int) := by omega
        have d2 : d < 2 := by omega
        have q2 : q < 2 := by omega
        have MV' : Hid (Nt.bv (M ++ [d]) + 2 ^ (M ++ [d]).length * q = Nt.low l m up (t + 1)) := by rw [hd, hq]; exact Nt.add_bit (s := l.getD t 0) MV.out (by have := HX.out; omega) (by rw [ML.out]; exact Nt.low_lt p0)
        have ML' : Hid ((M ++ [d]).length = t + 1) := by show _ = _; rw [List.length_append, ML.out]; rfl
        have tn : t ≤ na + nb + up := by have := LAST.out; omega
        have LAST' : Hid (t + 1 = na + nb + up + 1 → q = 0) := by intro e; exfalso; omega
        have pu : (t : Int) < (up : Int) := by omega
        clear hd hq
        go_wp2_with (first | (go_at_call 52; (with_reducible refine AX.out.mono ?_); rintro e w1 ⟨rfl, rfl⟩) | (at_builtin; refine wp_push rfl _ _ rfl _ M rfl (O.alloc _) d d2 _ _ rfl (laid_at _ _ _ _ rfl) MB.out ?_; intro v' w' O2))
        go_roundw
        case rel => exact ⟨t + 1, q, M ++ [d], by omega, by go_num, by rw [e2], q2, LAST'.out, ML', MV', O2⟩
        case measure => simp [intOf]; omega
    · by_cases p2 : t < nb + up
      · by_cases p0 : up ≤ t
        · obtain ⟨d, hd⟩ : ∃ d, d = (x + y + z) % 2 := ⟨_, rfl⟩
          obtain ⟨q, hq⟩ : ∃ q, q = (x + y + z) / 2 := ⟨_, rfl⟩
          have e1 : ((x : Int) + (y : Int) + (z : Int)) % 2 = (d : Int) := by omega
          have e2 : ((x : Int) + (y : Int) + (z : Int)) / 2 = (q : Int) := by omega
          have d2 : d < 2 := by omega
          have q2 : q < 2 := by omega
          have MV' : Hid (Nt.bv (M ++ [d]) + 2 ^ (M ++ [d]).length * q = Nt.low l m up (t + 1)) := by rw [hd, hq]; exact Nt.add_bit (s := l.getD t 0 + m.getD (t - up) 0) MV.out (by have := HX.out; have := HZ.out; omega) (by rw [ML.out]; exact Nt.low_ge p0)
          have ML' : Hid ((M ++ [d]).length = t + 1) := by show _ = _; rw [List.length_append, ML.out]; rfl
          have tn : t ≤ na + nb + up := by have := LAST.out; omega
          have LAST' : Hid (t + 1 = na + nb + up + 1 → q = 0) := by
            intro e
            have e3 : x = 0 := by rw [HX.out]; exact Nt.getD_out (by rw [← HA.out]; omega)
            have e4 : z = 0 := by rw [HZ.out]; exact Nt.getD_out (by rw [← HB.out]; omega)
            (rw [hq, e3, e4]) <;> omega
          have tu : (t : Int) - (up : Int) = ((t - up : Nat) : Int) := by omega
          have pu : (up : Int) ≤ (t : Int) := by omega
          have q1 : (na : Int) ≤ (t : Int) := by omega
          have q3 : (t : Int) < (nb : Int) + (up : Int) := by omega
          clear hd hq
          obtain ⟨tz, htz⟩ : ∃ tz, tz = t - up := ⟨_, rfl⟩
          rw [← htz] at AZ tu
          have HTZ := Lib.hid htz
          clear htz
          go_wp2_with (first | (go_at_call 52; (with_reducible refine AX.out.mono ?_); rintro e w1 ⟨rfl, rfl⟩) | (go_at_call 52; (with_reducible refine (AZ.out _ (Below.refl _ _)).mono ?_); rintro e w1 ⟨rfl, rfl⟩) | (at_builtin; refine wp_push rfl _ _ rfl _ M rfl (O.alloc _) d d2 _ _ rfl (laid_at _ _ _ _ rfl) MB.out ?_; intro v' w' O2))
          go_roundw
          case rel => exact ⟨t + 1, q, M ++ [d], by omega, by go_num, by rw [e2], q2, LAST'.out, ML', MV', O2⟩
          case measure => simp [intOf]; omega
        · obtain ⟨d, hd⟩ : ∃ d, d = (x + y) % 2 := ⟨_, rfl⟩
          obtain ⟨q, hq⟩ : ∃ q, q = (x + y) / 2 := ⟨_, rfl⟩
          have e1 : ((x : Int) + (y : Int)) % 2 = (d : Int) := by omega
          have e2 : ((x : Int) + (y : Int)) / 2 = (q : Int) := by omega
          have d2 : d < 2 := by omega
          have q2 : q < 2 := by omega
          have MV' : Hid (Nt.bv (M ++ [d]) + 2 ^ (M ++ [d]).length * q = Nt.low l m up (t + 1)) := by rw [hd, hq]; exact Nt.add_bit (s := l.getD t 0) MV.out (by have := HX.out; omega) (by rw [ML.out]; exact Nt.low_lt p0)
          have ML' : Hid ((M ++ [d]).length = t + 1) := by show _ = _; rw [List.length_append, ML.out]; rfl
          have tn : t ≤ na + nb + up := by have := LAST.out; omega
          have LAST' : Hid (t + 1 = na + nb + up + 1 → q = 0) := by intro e; exfalso; omega
          have pu : (t : Int) < (up : Int) := by omega
          have q1 : (na : Int) ≤ (t : Int) := by omega
          have q3 : (t : Int) < (nb : Int) + (up : Int) := by omega
          clear hd hq
          go_wp2_with (first | (go_at_call 52; (with_reducible refine AX.out.mono ?_); rintro e w1 ⟨rfl, rfl⟩) | (at_builtin; refine wp_push rfl _ _ rfl _ M rfl (O.alloc _) d d2 _ _ rfl (laid_at _ _ _ _ rfl) MB.out ?_; intro v' w' O2))
          go_roundw
          case rel => exact ⟨t + 1, q, M ++ [d], by omega, by go_num, by rw [e2], q2, LAST'.out, ML', MV', O2⟩
          case measure => simp [intOf]; omega
      · by_cases p3 : y = 1
        · subst p3
          have p0 : up ≤ t := by omega
          obtain ⟨d, hd⟩ : ∃ d, d = (x + 1 + z) % 2 := ⟨_, rfl⟩
          obtain ⟨q, hq⟩ : ∃ q, q = (x + 1 + z) / 2 := ⟨_, rfl⟩
          have e1 : ((x : Int) + 1 + (z : Int)) % 2 = (d : Int) := by omega
          have e2 : ((x : Int) + 1 + (z : Int)) / 2 = (q : Int) := by omega
          have d2 : d < 2 := by omega
          have q2 : q < 2 := by omega
          have MV' : Hid (Nt.bv (M ++ [d]) + 2 ^ (M ++ [d]).length * q = Nt.low l m up (t + 1)) := by rw [hd, hq]; exact Nt.add_bit (s := l.getD t 0 + m.getD (t - up) 0) MV.out (by have := HX.out; have := HZ.out; omega) (by rw [ML.out]; exact Nt.low_ge p0)
          have ML' : Hid ((M ++ [d]).length = t + 1) := by show _ = _; rw [List.length_append, ML.out]; rfl
          have tn : t ≤ na + nb + up := by have := LAST.out; omega
          have LAST' : Hid (t + 1 = na + nb + up + 1 → q = 0) := by
            intro e
            have e3 : x = 0 := by rw [HX.out]; exact Nt.getD_out (by rw [← HA.out]; omega)
            have e4 : z = 0 := by rw [HZ.out]; exact Nt.getD_out (by rw [← HB.out]; omega)
            (rw [hq, e3, e4]) <;> omega
          have tu : (t : Int) - (up : Int) = ((t - up : Nat) : Int) := by omega
          have pu : (up : Int) ≤ (t : Int) := by omega
          have q1 : (na : Int) ≤ (t : Int) := by omega
          have q2' : (nb : Int) + (up : Int) ≤ (t : Int) := by omega
          clear hd hq
          obtain ⟨tz, htz⟩ : ∃ tz, tz = t - up := ⟨_, rfl⟩
          rw [← htz] at AZ tu
          have HTZ := Lib.hid htz
          clear htz
          go_wp2_with (first | (go_at_call 52; (with_reducible refine AX.out.mono ?_); rintro e w1 ⟨rfl, rfl⟩) | (go_at_call 52; (with_reducible refine (AZ.out _ (Below.refl _ _)).mono ?_); rintro e w1 ⟨rfl, rfl⟩) | (at_builtin; refine wp_push rfl _ _ rfl _ M rfl (O.alloc _) d d2 _ _ rfl (laid_at _ _ _ _ rfl) MB.out ?_; intro v' w' O2))
          go_roundw
          case rel => exact ⟨t + 1, q, M ++ [d], by omega, by go_num, by rw [e2], q2, LAST'.out, ML', MV', O2⟩
          case measure => simp [intOf]; omega
        · obtain rfl : y = 0 := by omega
          have LB : M.length ≤ 1000000000 := by have := MB.out; omega
          have TV : Hid (Nt.bv M = Nt.bv l + 2 ^ up * Nt.bv m) := by
            show _ = _
            rw [← Nt.low_all (l := l) (m := m) (up := up) (i := t) (by rw [← HA.out]; omega) (by rw [← HB.out]; omega), ← MV.out, Nat.mul_zero, Nat.add_zero]
          have q1 : (na : Int) ≤ (t : Int) := by omega
          have q2 : (nb : Int) + (up : Int) ≤ (t : Int) := by omega
          clear AX AZ
          go_wp2_with (go_at_call 71; (with_reducible refine (rtrim_bt _ M _ O.bt LB).mono ?_); rintro e w1 ⟨a1, n1, c1, rfl, t1, b1⟩)
          go_ret
          exact ⟨_, _, _, rfl, by rw [← TV.out]; exact t1, O.bl.trans (b1.mono O.bl.size)⟩
end Go.Proofs.YtlmigbfpdbkkjaaDoor
