/- The reference's limbs: its walk; fit, Right. -/
import Derived.Test.YtlmigbfpdbkkjaaDoorBk
namespace Go.Proofs.YtlmigbfpdbkkjaaDoor
open Go.RowKit

namespace Nt
theorem bits_lt {L : List Nat} (h : Bits L) (t : Nat) : bv (L.take t) < 2 ^ t := by
  have := bv_lt (bits_take h t)
  rw [List.length_take] at this
  exact Nat.lt_of_lt_of_le this (Nat.pow_le_pow_right (by decide) (Nat.min_le_left _ _))
theorem val_zero_end (M : List Nat) : val (M ++ [0]) = val M := by
  show Pos.val B (M ++ [0]) = _
  rw [Pos.val_snoc, Nat.mul_zero, Nat.add_zero]; rfl
theorem set_bit {M L : List Nat} {t d Z P S x : Nat} (hv : val M = bv (L.take t)) (hd : d = t / 32) (hl : d < M.length) (hZ : Z = M.getD d 0) (hP : P = 2 ^ (t % 32)) (hS : S = Z + P) (hx : x = L.getD t 0) (h1 : x = 1) : val (M.set d S) = bv (L.take (t + 1)) := by
  have e : bv (L.take (t + 1)) = bv (L.take t) + 2 ^ t * x := by rw [hx]; exact Pos.val_take 2 L t
  rw [e, hS, hZ, h1, Nat.mul_one, ← hv, hP]
  have := val_inc B M d (2 ^ (t % 32)) hl
  have e2 : (2 : Nat) ^ t = B ^ (t / 32) * 2 ^ (t % 32) := by rw [← pow_limb, ← Nat.pow_add, Nat.div_add_mod]
  rw [e2, ← hd]
  exact this
theorem no_bit {L : List Nat} {t x : Nat} (hx : x = L.getD t 0) (h0 : x = 0) : bv (L.take (t + 1)) = bv (L.take t) := by
  have e : bv (L.take (t + 1)) = bv (L.take t) + 2 ^ t * x := by rw [hx]; exact Pos.val_take 2 L t
  rw [e, h0, Nat.mul_zero, Nat.add_zero]
theorem pow_small (m : Nat) (h : m < 32) : 2 ^ m ≤ 2147483648 := Nat.pow_le_pow_right (n := 2) (by decide) (show m ≤ 31 by omega)
end Nt

set_option maxRecDepth 100000 in
set_option maxHeartbeats 3200000 in
theorem rlimbs_any (v : Value) (l : List Nat) (w : World) (h : Bt w v l) (hl : l.length ≤ 40000) :
    Calls Tryd.prog 56 #[v] w fun e w' => ∃ a n c, e = .returned (.slice a n c) ∧ Lm w' (.slice a n c) (Nt.dig (Nt.bv l)) ∧ Below w.heap.size w w' := by
  have TR := Lib.hid (rtrim_b2 v l w h (by omega))
  have LX : Hid ((Nt.bd (Nt.bv l)).length ≤ 40000) := by
    show _ ≤ _
    refine Nat.le_trans ?_ hl
    rw [Nt.bd_len]; exact Nt.bv_lt h.bits
  obtain ⟨X, hX⟩ : ∃ X, X = Nt.bv l := ⟨_, rfl⟩
  rw [← hX] at TR LX ⊢
  obtain ⟨a, c, rfl, -, -, hcap, -⟩ := h
  clear hX
  go_enter Tryd.func56, Tryd.ntmps56
  go_wp2_with (go_at_call 71; (with_reducible refine TR.out.mono ?_); rintro e w1 ⟨a1, n1, c1, rfl, t1, b1, hv⟩; have HV := Lib.hid hv; clear hv)
  have BL := Lib.hid (Nt.bits_bd X)
  obtain ⟨_, hn, _⟩ := t1.cap
  obtain ⟨L, hL⟩ : ∃ L, L = Nt.bd X := ⟨_, rfl⟩
  rw [← hL] at t1 hn BL LX
  have HL := Lib.hid hL
  have HN := Lib.hid hn
  have N1 : n1 ≤ 40000 := by rw [hn]; exact LX.out
  obtain ⟨a', c', e', -, -, hcap', hcs⟩ := t1
  obtain ⟨ea, en, ec⟩ := Value.slice.inj e'
  clear en
  subst ea ec
  rw [← hn] at hcap' hcs
  have H := Lib.hid hcs
  have B1 := Lib.hid b1
  clear e' hcs hn hL b1
  go_loopw [3, 4] (fun out i wr => ∃ (t : Nat) (M : List Nat), t ≤ n1 ∧ i = .int .i64 t ∧ Hid (M.length = (t + 31) / 32) ∧ Hid (Nt.val M = Nt.bv (L.take t)) ∧ Ow w1 wr out M) (fun _ i _ => n1 + 1 - (intOf i).toNat)
  case atStart => exact ⟨0, [], Nat.zero_le _, rfl, (show _ = _ from rfl), (show _ = _ from rfl), Ow.nil w1⟩
  case round =>
    obtain ⟨t, M, ht, rfl, ML, MV, O⟩ := hrel
    by_cases hlt : t < n1
    · rcases H.out with h0 | ⟨b, off, rfl, hc⟩
      · exfalso; have := HN.out; rw [h0] at this; simp at this; omega
      have hck := (O.bl.cell (World.block_lt_of_cell? _ _ (hc t hlt))).trans (hc t hlt)
      have X1 := Nt.bit_at BL.out t
      obtain ⟨x, hx⟩ : ∃ x, x = L.getD t 0 := ⟨_, rfl⟩
      have HC : Hid (w1.cell? ⟨b, off + t, none⟩ = some (.int .i64 x)) := by show _ = _; rw [hx]; exact hc t hlt
      rw [← hx] at hck X1
      have HX := Lib.hid hx
      obtain ⟨m, hm⟩ : ∃ m, m = t % 32 := ⟨_, rfl⟩
      have m1 : m < 32 := by omega
      have em : (t : Int) % 32 = (m : Int) := by omega
      obtain ⟨P, hP⟩ : ∃ P, P = 2 ^ m := ⟨_, rfl⟩
      have P1 : P ≤ 2147483648 := by rw [hP]; exact Nt.pow_small m m1
      have SH : (2 : Int) ^ m % 4294967296 = (P : Int) := shl_val m P hP (by rw [B_is]; omega)
      have HP : Hid (P = 2 ^ (t % 32)) := by show _ = _; rw [hP, hm]
      have HM := Lib.hid hm
      clear hx hc hP
      by_cases c1 : m = 0
      · have eL : Hid (M.length = t / 32) := by show _ = _; rw [ML.out]; have := HM.out; omega
        obtain ⟨d, hd⟩ : ∃ d, d = M.length := ⟨_, rfl⟩
        have ed : (t : Int) / 32 = (d : Int) := by have := eL.out; omega
        have D0 : Hid (d = t / 32) := by show _ = _; rw [hd]; exact eL.out
        have V0 : Hid (Nt.val (M ++ [0]) = Nt.bv (L.take t)) := by show _ = _; rw [Nt.val_zero_end]; exact MV.out
        have K0 : Hid ((M ++ [0]).length = d + 1) := by show _ = _; rw [List.length_append, hd]; rfl
        have Z0 : Hid ((M ++ [0]).getD d 0 < 2 ^ (t % 32)) := by
          have := Nt.digit_lt (l := M ++ [0]) (t := t) (by rw [K0.out, D0.out]; omega) (by rw [V0.out]; exact Nt.bits_lt BL.out t)
          rw [D0.out]; exact this
        have MB : Hid (M.length ≤ 1000000) := by show M.length ≤ _; rw [eL.out]; omega
        have em0 : (t : Int) % 32 = 0 := by rw [em, c1]; rfl
        have HD := Lib.hid hd
        clear hm hd em
        by_cases c2 : x = 1
        · subst c2
          obtain ⟨Z, hZ⟩ : ∃ Z, Z = (M ++ [0]).getD d 0 := ⟨_, rfl⟩
          obtain ⟨S, hS⟩ : ∃ S, S = Z + P := ⟨_, rfl⟩
          have zP : S < 4294967296 := by have := Z0.out; rw [← hZ, ← HP.out] at this; omega
          have eS : (Z : Int) + (P : Int) = (S : Int) := by omega
          have V2 : Hid (Nt.val ((M ++ [0]).set d S) = Nt.bv (L.take (t + 1))) := Nt.set_bit V0.out D0.out (by rw [K0.out]; omega) hZ HP.out hS HX.out rfl
          have K2 : Hid (((M ++ [0]).set d S).length = (t + 1 + 31) / 32) := by show _ = _; rw [List.length_set, K0.out, D0.out]; omega
          have HZ := Lib.hid hZ
          clear hZ hS
          have eS1 : (Z : Int) + 1 = (S : Int) := by have p1 : P = 1 := (by rw [HP.out, ← HM.out, c1]); omega
          go_wp2_with (at_builtin; refine wp_pushw rfl _ _ rfl _ M rfl (O.alloc _) 0 (by decide) _ _ rfl (laid_at _ _ _ _ rfl) MB.out ?_; intro g5 c5 w5 O5 hB5 r5 hc5; rw [← HD.out] at O5 hc5 ⊢; have hck5 := (O5.bl.cell (World.block_lt_of_cell? _ _ HC.out)).trans HC.out; have qc := r5.cell (j := d) (by rw [K0.out]; omega); rw [← HZ.out] at qc; have qf := r5.free d; have R5 := Lib.hid r5; have HB5 := Lib.hid hB5; clear r5 hB5)
          have O6 := O5.put (by rw [K0.out]) HB5.out R5.out d S (by rw [B_is]; exact zP)
          go_roundw
          case rel => exact ⟨t + 1, (M ++ [0]).set d S, by omega, by go_num, K2, V2, O6⟩
          case measure => simp [intOf]; omega
        · obtain rfl : x = 0 := by omega
          have V2 : Hid (Nt.val (M ++ [0]) = Nt.bv (L.take (t + 1))) := by show _ = _; rw [Nt.no_bit HX.out rfl]; exact V0.out
          have K2 : Hid ((M ++ [0]).length = (t + 1 + 31) / 32) := by show _ = _; rw [K0.out, D0.out]; omega
          go_wp2_with (at_builtin; refine wp_pushw rfl _ _ rfl _ M rfl (O.alloc _) 0 (by decide) _ _ rfl (laid_at _ _ _ _ rfl) MB.out ?_; intro g5 c5 w5 O5 hB5 r5 hc5; rw [← HD.out] at O5 hc5 ⊢; have hck5 := (O5.bl.cell (World.block_lt_of_cell? _ _ HC.out)).trans HC.out; clear r5 hB5)
          go_roundw
          case rel => exact ⟨t + 1, M ++ [0], by omega, by go_num, K2, V2, O5⟩
          case measure => simp [intOf]; omega
      · have eL : Hid (M.length = t / 32 + 1) := by show _ = _; rw [ML.out]; have := HM.out; omega
        obtain ⟨d, hd⟩ : ∃ d, d = t / 32 := ⟨_, rfl⟩
        have ed : (t : Int) / 32 = (d : Int) := by omega
        obtain ⟨g5, c5, hv5, hB5, hc5, r5⟩ := O.row (by rw [eL.out]; omega)
        rw [eL.out, ← hd] at hv5 hc5
        subst hv5
        have K0 : Hid (M.length = d + 1) := by show _ = _; rw [eL.out, hd]
        have Z0 : Hid (M.getD d 0 < 2 ^ (t % 32)) := by
          have := Nt.digit_lt (l := M) (t := t) (by rw [eL.out]; omega) (by rw [MV.out]; exact Nt.bits_lt BL.out t)
          rw [hd]; exact this
        have HB5 := Lib.hid hB5
        have m0 : ¬ ((m : Int) = 0) := by omega
        have D0 := Lib.hid hd
        clear hm hd hB5
        by_cases c2 : x = 1
        · subst c2
          obtain ⟨Z, hZ⟩ : ∃ Z, Z = M.getD d 0 := ⟨_, rfl⟩
          obtain ⟨S, hS⟩ : ∃ S, S = Z + P := ⟨_, rfl⟩
          have zP : S < 4294967296 := by have := Z0.out; rw [← hZ, ← HP.out] at this; omega
          have eS : (Z : Int) + (P : Int) = (S : Int) := by omega
          have V2 : Hid (Nt.val (M.set d S) = Nt.bv (L.take (t + 1))) := Nt.set_bit MV.out D0.out (by rw [K0.out]; omega) hZ HP.out hS HX.out rfl
          have K2 : Hid ((M.set d S).length = (t + 1 + 31) / 32) := by show _ = _; rw [List.length_set, K0.out, D0.out]; omega
          have qc := r5.cell (j := d) (by rw [K0.out]; omega)
          rw [← hZ] at qc
          have qf := r5.free d
          have O6 := Lib.hid (O.put (by rw [K0.out]) HB5.out r5 d S (by rw [B_is]; exact zP))
          clear hZ hS r5
          go_wp2
          go_roundw
          case rel => exact ⟨t + 1, M.set d S, by omega, by go_num, K2, V2, O6.out⟩
          case measure => simp [intOf]; omega
        · obtain rfl : x = 0 := by omega
          have V2 : Hid (Nt.val M = Nt.bv (L.take (t + 1))) := by show _ = _; rw [Nt.no_bit HX.out rfl]; exact MV.out
          have K2 : Hid (M.length = (t + 1 + 31) / 32) := by show _ = _; rw [K0.out, D0.out]; have := HM.out; omega
          clear r5
          go_wp2
          go_roundw
          case rel => exact ⟨t + 1, M, by omega, by go_num, K2, V2, O⟩
          case measure => simp [intOf]; omega
    · obtain rfl : t = n1 := by omega
      have LAST : Hid (M = Nt.dig X) := by
        show _ = _
        refine Nt.limbs_done O.fit ?_ ML.out (by rw [HN.out, HL.out])
        rw [MV.out, HN.out, List.take_length, HL.out, Nt.bv_bd]
      obtain ⟨a5, c5, hv5, l5⟩ := O.lm
      subst hv5
      go_wp2
      go_ret
      exact ⟨_, _, _, rfl, by rw [← LAST.out]; exact l5, B1.out.trans (O.bl.mono B1.out.size)⟩
set_option maxHeartbeats 800000 in
theorem rfit_any (v : Value) (l : List Nat) (w : World) (h : Bt w v l) (hl : l.length ≤ 32768) :
    Calls Tryd.prog 55 #[v] w fun e w' => ∃ a n c, e = .returned (.tuple #[.slice a n c, .int .i64 0]) ∧ Lm w' (.slice a n c) (Nt.dig (Nt.bv l)) ∧ Below w.heap.size w w' := by
  have LB := Lib.hid (rlimbs_any v l w h (by omega))
  obtain ⟨a, c, rfl, -, -, hcap, -⟩ := h
  obtain ⟨n, hn⟩ : ∃ n, n = l.length := ⟨_, rfl⟩
  rw [← hn] at LB hcap hl ⊢
  clear hn
  go_enter Tryd.func55, Tryd.ntmps55
  go_wp2_with (go_at_call 56; (with_reducible refine LB.out.mono ?_); rintro e w1 ⟨a1, n1, c1, rfl, t1, b1⟩)
  go_ret2
  exact ⟨_, _, _, rfl, t1, b1⟩
end Go.Proofs.YtlmigbfpdbkkjaaDoor
