/- The reference's Right and Pow. -/
import Derived.Test.YtlmigbfpdbkkjaaDoorBl
import Derived.Test.YtlmigbfpdbkkjaaDoorNr
import Derived.Deep.DeepCutAuto
namespace Go.Proofs.YtlmigbfpdbkkjaaDoor
open Go.RowKit

set_option maxRecDepth 100000 in
set_option maxHeartbeats 800000 in
theorem rright_any (v : Value) (l : List Nat) (w : World) (h : Lm w v l) : Calls Tryd.prog 49 #[v] w fun e w' => e = .returned (.bool (Nt.rg l)) ∧ w = w' := by
  obtain ⟨a, c, rfl, hf, -, hcap, h⟩ := h
  obtain ⟨n, hn⟩ : ∃ n, n = l.length := ⟨_, rfl⟩
  rw [← hn] at h hcap ⊢
  have HN := Lib.hid hn
  by_cases h1 : 1024 < n
  · have R := Lib.hid (rg_no_len (l := l) (by omega))
    have D1 : decide ((n : Int) ≤ 1024) = false := decide_eq_false (by omega)
    clear h hn hf
    go_enter Tryd.func49, Tryd.ntmps49
    go_wp2
    go_ret
    exact ⟨ret_bool R.out.symm, rfl⟩
  · by_cases h0 : n = 0
    · subst h0
      have R : Hid (Nt.rg l = true) := by show _ = _; rw [List.eq_nil_of_length_eq_zero hn.symm]; exact Nt.rg_nil
      clear h hn hf
      go_enter Tryd.func49, Tryd.ntmps49
      go_wp2
      go_ret
      exact ⟨ret_bool R.out.symm, rfl⟩
    · obtain ⟨m, rfl⟩ : ∃ m, n = m + 1 := ⟨n - 1, by omega⟩
      have R := Lib.hid (rg_last hn.symm (by omega))
      rcases h with e0 | ⟨b, off, rfl, hc⟩
      · rw [e0] at hn; simp at hn
      have hck := hc m (by omega)
      obtain ⟨x, hx⟩ : ∃ x, x = l.getD m 0 := ⟨_, rfl⟩
      rw [← hx] at hck R
      clear hx hc hn hf
      by_cases hx0 : x = 0
      · subst hx0
        go_enter Tryd.func49, Tryd.ntmps49
        go_wp2
        go_ret
        exact ⟨ret_bool R.out.symm, rfl⟩
      · have D := Lib.hid (decide_eq_true (p := x ≠ 0) hx0)
        go_enter Tryd.func49, Tryd.ntmps49
        go_wp2
        go_ret
        exact ⟨ret_bool (by rw [R.out, D.out, Bool.or_eq_true, bne_iff_ne]; exact Or.inr (by omega)), rfl⟩
theorem rright_b (v : Value) (l : List Nat) (b : Bool) (w : World) (h : Lm w v l) (e : Nt.rg l = b) : Calls Tryd.prog 49 #[v] w fun e w' => e = .returned (.bool b) ∧ w = w' := by
  subst e; exact rright_any v l w h
theorem bd_one : Nt.bd 1 = [1] := by decide
theorem one_bt (w : World) (b : Nat) (hb : b = w.heap.size) : Bt (w.alloc (.cells #[.int .i64 1] 3)) (.slice (some ⟨b, 0, none⟩) 1 1) (Nt.bd 1) := by
  rw [bd_one]
  refine ⟨_, 1, rfl, bd_one ▸ Nt.bits_bd 1, fun e => (by cases e), Nat.le_refl _, Or.inr ⟨b, 0, rfl, fun j hj => ?_⟩⟩
  have : j = 0 := by simp at hj; exact hj
  subst this
  exact laid_at w _ _ b hb
theorem pow_len {X t : Nat} (h : X < 2 ^ 96) : (Nt.bd (X ^ t)).length ≤ 96 * t + 1 := by
  rw [Nt.bd_len]
  have : X ^ t ≤ (2 ^ 96) ^ t := Nat.pow_le_pow_left (Nat.le_of_lt h) t
  rw [← Nat.pow_mul] at this
  exact Nat.lt_of_le_of_lt this (Nat.pow_lt_pow_right (by decide) (Nat.lt_succ_self _))
theorem numR_small {x k : Nat} (h : (Nt.bd x).length ≤ k) (hk : k ≤ 32768) : Nt.numR x = (Nt.dig x, 0) := by
  unfold Nt.numR
  rw [if_pos]
  have h1 := (Nt.bd_len x k).1 h
  obtain ⟨N, hN⟩ : ∃ N, N = 1024 := ⟨_, rfl⟩
  rw [Nt.top_pow hN, ← Nt.pow_limb]
  exact Nat.lt_of_lt_of_le h1 (Nat.pow_le_pow_right (by decide) (by omega))
set_option maxRecDepth 100000 in
set_option maxHeartbeats 1600000 in
theorem rpow_any (v : Value) (l : List Nat) (n : Int) (w : World) (h : Lm w v l) (hl : l.length ≤ 3) (hn : n ≤ 30) (hn0 : -9223372036854775808 ≤ n) :
    Calls Tryd.prog 30 #[v, .int .i64 n] w fun e w' => ∃ a n2 c, e = .returned (.tuple #[.slice a n2 c, .int .i64 (Nt.powR l n).2]) ∧ Lm w' (.slice a n2 c) (Nt.powR l n).1 ∧ Below w.heap.size w w' := by
  have LV := Lib.hid h
  obtain ⟨a, c, rfl, hf, ha, hcap, h⟩ := h
  cases hrl : Nt.rg l with
  | false =>
    have R := Lib.hid (rright_b _ l false w LV.out hrl)
    have E : Hid (Nt.powR l n = ([], 2)) := by show _ = _; unfold Nt.powR; rw [if_neg (by simp [hrl])]
    obtain ⟨k, hk⟩ : ∃ k, k = l.length := ⟨_, rfl⟩
    rw [← hk] at R hcap ⊢
    clear h hf ha hrl hk LV
    go_enter Tryd.func30, Tryd.ntmps30
    go_wp2_with (go_at_call 49; (with_reducible refine R.out.mono ?_); rintro e w1 ⟨rfl, rfl⟩)
    go_ret2
    rw [E.out]
    exact ⟨_, _, _, rfl, Lm.nil _, Below.refl _ _⟩
  | true =>
    have R := Lib.hid (rright_b _ l true w LV.out hrl)
    by_cases hneg : n < 0
    · have E : Hid (Nt.powR l n = ([], 2)) := by show _ = _; unfold Nt.powR; rw [if_neg (by simp [hrl]; omega)]
      obtain ⟨k, hk⟩ : ∃ k, k = l.length := ⟨_, rfl⟩
      rw [← hk] at R hcap ⊢
      clear h hf ha hrl hk LV
      go_enter Tryd.func30, Tryd.ntmps30
      go_wp2_with (go_at_call 49; (with_reducible refine R.out.mono ?_); rintro e w1 ⟨rfl, rfl⟩)
      go_ret2
      rw [E.out]
      exact ⟨_, _, _, rfl, Lm.nil _, Below.refl _ _⟩
    · obtain ⟨m, rfl⟩ : ∃ m : Nat, n = (m : Int) := ⟨n.toNat, by omega⟩
      obtain ⟨X, hX⟩ : ∃ X, X = Nt.val l := ⟨_, rfl⟩
      have X1 : Hid (X < 2 ^ 96) := by
        show X < _
        rw [hX]
        have := Pos.val_lt (b := Nt.B) (xs := l) hf
        exact Nat.lt_of_lt_of_le this (Nat.le_trans (Nat.pow_le_pow_right (by decide) hl) (by decide))
      have E : Hid (Nt.powR l (m : Int) = (Nt.dig (X ^ m), 0)) := by
        show _ = _
        unfold Nt.powR
        rw [if_pos ⟨hrl, Int.natCast_nonneg m⟩, Int.toNat_natCast, ← hX]
        exact numR_small (pow_len X1.out) (by omega)
      have BT := Lib.hid (fun w' (b : Below w.heap.size w w') => rbits_any _ l w' (LV.out.below b) (by omega))
      rw [← hX] at BT
      have m30 : m ≤ 30 := by omega
      obtain ⟨k, hk⟩ : ∃ k, k = l.length := ⟨_, rfl⟩
      rw [← hk] at R hcap BT ⊢
      have LX : Hid ((Nt.bd X).length ≤ 97) := by have := pow_len (t := 1) X1.out; rw [Nat.pow_one] at this; exact this
      clear h hf ha hrl hk hX LV hn hn0 hneg
      go_enter Tryd.func30, Tryd.ntmps30
      go_upto_region 4 with (first | (go_at_call 49; (with_reducible refine R.out.mono ?_); rintro e w1 ⟨rfl, rfl⟩)  | (go_at_call 50; (with_reducible refine (BT.out _ ((Below.refl _ _).alloc (Nat.le_refl _) _)).mono ?_); rintro e w2 ⟨a2, n2, c2, rfl, t2, b2⟩; have O2 := Lib.hid ((one_bt w _ rfl).below b2); have B2 := Lib.hid (bring b2 ((Below.refl _ _).alloc (Nat.le_refl _) _)); clear b2))
      obtain ⟨_, e2, _⟩ := t2.cap
      have E2 := Lib.hid e2
      have T2 := Lib.hid t2
      clear e2 t2
      by_cases h1 : n2 ≤ 1
      · by_cases h2 : 1 < m
        · have XQ : Hid (X ^ 1 = X ^ m) := by
            show _ = _
            have : X < 2 ^ 1 := (Nt.bd_len X 1).1 (by rw [← E2.out]; exact h1)
            rcases (show X = 0 ∨ X = 1 by omega) with rfl | rfl
            · rw [Nat.zero_pow (by omega), Nat.zero_pow (by omega)]
            · rw [Nat.one_pow, Nat.one_pow]
          have h2' : (1 : Int) < (m : Int) := by omega
          have h1' : (n2 : Int) ≤ 1 := by omega
          have d1 : decide ((n2 : Int) ≤ 1) = true := decide_eq_true h1'
          have d2 : decide ((1 : Int) < (m : Int)) = true := decide_eq_true h2'
          clear h1 h2
          have ML := Lib.hid (fun t v u w' (h : Bt w' v (Nt.bd (X ^ t))) (h' : Bt w' u (Nt.bd X)) (ht : t ≤ 30) => rmul_any v u _ _ w' h h' (by have := pow_len (t := t) X1.out; have := LX.out; omega))
          go_wp2_with fail
          go_loopw [6, 8] (fun out i wr => ∃ (t : Int) (a : Option Addr) (j c : Nat), 0 ≤ t ∧ t ≤ 1 ∧ i = .int .i64 t ∧ out = .slice a j c ∧ Hid (Bt wr (.slice a j c) (Nt.bd (X ^ t.toNat))) ∧ Hid (Below w2.heap.size w2 wr)) (fun _ i _ => 1 + 1 - (intOf i).toNat)
          case atStart => exact ⟨0, _, _, _, Int.le_refl _, by decide, rfl, rfl, (show Bt _ _ _ by rw [show (0 : Int).toNat = 0 from rfl, Nat.pow_zero]; exact O2.out), (show Below _ _ _ from Below.refl _ _)⟩
          case round =>
            obtain ⟨t, a3, n3, c3, ht0, ht, rfl, rfl, O3, B3⟩ := hrel
            by_cases hlt : t < 1
            · have TT : Hid (t.toNat = 0) := by show _ = _; omega
              have TU : Hid ((t + 1).toNat = 1) := by show _ = _; omega
              have O4 : Hid (Bt wr (.slice a3 n3 c3) (Nt.bd (X ^ 0))) := by have := O3.out; rw [TT.out] at this; exact this
              have ST : Hid (Nt.bv (Nt.bd (X ^ 0)) * Nt.bv (Nt.bd X) = X ^ (t + 1).toNat) := by show _ = _; rw [Nt.bv_bd, Nt.bv_bd, TU.out, ← Nat.pow_succ]
              have PL : Hid ((Nt.bd (X ^ (t + 1).toNat)).length ≤ 32768) := by show _ ≤ _; rw [TU.out]; have := pow_len (t := 1) X1.out; omega
              go_wp2_with (go_at_call 54; (with_reducible refine (ML.out 0 _ _ _ O4.out (T2.out.below B3.out) (by omega)).mono ?_); rintro e w5 ⟨a5, n5, c5, rfl, t5, b5⟩; rw [ST.out] at t5; have n5l : n5 ≤ 32768 := (by obtain ⟨_, e5, _⟩ := t5.cap; rw [e5]; exact PL.out); have T5 := Lib.hid t5; have B5 := Lib.hid (bring b5 B3.out); clear t5 b5)
              go_roundw
              case rel => exact ⟨t + 1, a5, n5, c5, by omega, by omega, by go_num, rfl, T5, B5⟩
              case measure => simp [intOf]; omega
            · have t1 : t = 1 := by omega
              subst t1
              have LI := Lib.hid (rlimbs_any _ (Nt.bd (X ^ 1)) wr O3.out (by have := pow_len (t := 1) X1.out; omega))
              rw [Nt.bv_bd, XQ.out] at LI
              go_wp2_with (go_at_call 56; (with_reducible refine LI.out.mono ?_); rintro e w5 ⟨a5, n5, c5, rfl, t5, b5⟩)
              go_ret2
              rw [E.out]
              exact ⟨_, _, _, rfl, t5, bring b5 (bring B3.out B2.out)⟩
        · have h2' : (m : Int) ≤ 1 := by omega
          have ML := Lib.hid (fun t v u w' (h : Bt w' v (Nt.bd (X ^ t))) (h' : Bt w' u (Nt.bd X)) (ht : t ≤ 30) => rmul_any v u _ _ w' h h' (by have := pow_len (t := t) X1.out; have := LX.out; omega))
          go_wp2_with fail
          go_loopw [6, 8] (fun out i wr => ∃ (t : Nat) (a : Option Addr) (j c : Nat), t ≤ m ∧ i = .int .i64 t ∧ out = .slice a j c ∧ Hid (Bt wr (.slice a j c) (Nt.bd (X ^ t))) ∧ Hid (Below w2.heap.size w2 wr)) (fun _ i _ => m + 1 - (intOf i).toNat)
          case atStart => exact ⟨0, _, _, _, Nat.zero_le _, rfl, rfl, (show Bt _ _ _ by rw [Nat.pow_zero]; exact O2.out), (show Below _ _ _ from Below.refl _ _)⟩
          case round =>
            obtain ⟨t, a3, n3, c3, ht, rfl, rfl, O3, B3⟩ := hrel
            by_cases hlt : t < m
            · have ST : Hid (Nt.bv (Nt.bd (X ^ t)) * Nt.bv (Nt.bd X) = X ^ (t + 1)) := by show _ = _; rw [Nt.bv_bd, Nt.bv_bd, Nat.pow_succ]
              have PL : Hid ((Nt.bd (X ^ (t + 1))).length ≤ 32768) := by show _ ≤ _; have := pow_len (t := t + 1) X1.out; omega
              go_wp2_with (go_at_call 54; (with_reducible refine (ML.out t _ _ _ O3.out (T2.out.below B3.out) (by omega)).mono ?_); rintro e w5 ⟨a5, n5, c5, rfl, t5, b5⟩; rw [ST.out] at t5; have n5l : n5 ≤ 32768 := (by obtain ⟨_, e5, _⟩ := t5.cap; rw [e5]; exact PL.out); have T5 := Lib.hid t5; have B5 := Lib.hid (bring b5 B3.out); clear t5 b5)
              go_roundw
              case rel => exact ⟨t + 1, a5, n5, c5, by omega, by go_num, rfl, T5, B5⟩
              case measure => simp [intOf]; omega
            · obtain rfl : t = m := by omega
              have LI := Lib.hid (rlimbs_any _ _ wr O3.out (by have := pow_len (t := t) X1.out; omega))
              rw [Nt.bv_bd] at LI
              go_wp2_with (go_at_call 56; (with_reducible refine LI.out.mono ?_); rintro e w5 ⟨a5, n5, c5, rfl, t5, b5⟩)
              go_ret2
              rw [E.out]
              exact ⟨_, _, _, rfl, t5, bring b5 (bring B3.out B2.out)⟩
      · have h1' : (1 : Int) < (n2 : Int) := by omega
        have ML := Lib.hid (fun t v u w' (h : Bt w' v (Nt.bd (X ^ t))) (h' : Bt w' u (Nt.bd X)) (ht : t ≤ 30) => rmul_any v u _ _ w' h h' (by have := pow_len (t := t) X1.out; have := LX.out; omega))
        go_wp2_with fail
        go_loopw [6, 8] (fun out i wr => ∃ (t : Nat) (a : Option Addr) (j c : Nat), t ≤ m ∧ i = .int .i64 t ∧ out = .slice a j c ∧ Hid (Bt wr (.slice a j c) (Nt.bd (X ^ t))) ∧ Hid (Below w2.heap.size w2 wr)) (fun _ i _ => m + 1 - (intOf i).toNat)
        case atStart => exact ⟨0, _, _, _, Nat.zero_le _, rfl, rfl, (show Bt _ _ _ by rw [Nat.pow_zero]; exact O2.out), (show Below _ _ _ from Below.refl _ _)⟩
        case round =>
          obtain ⟨t, a3, n3, c3, ht, rfl, rfl, O3, B3⟩ := hrel
          by_cases hlt : t < m
          · have ST : Hid (Nt.bv (Nt.bd (X ^ t)) * Nt.bv (Nt.bd X) = X ^ (t + 1)) := by show _ = _; rw [Nt.bv_bd, Nt.bv_bd, Nat.pow_succ]
            have PL : Hid ((Nt.bd (X ^ (t + 1))).length ≤ 32768) := by show _ ≤ _; have := pow_len (t := t + 1) X1.out; omega
            go_wp2_with (go_at_call 54; (with_reducible refine (ML.out t _ _ _ O3.out (T2.out.below B3.out) (by omega)).mono ?_); rintro e w5 ⟨a5, n5, c5, rfl, t5, b5⟩; rw [ST.out] at t5; have n5l : n5 ≤ 32768 := (by obtain ⟨_, e5, _⟩ := t5.cap; rw [e5]; exact PL.out); have T5 := Lib.hid t5; have B5 := Lib.hid (bring b5 B3.out); clear t5 b5)
            go_roundw
            case rel => exact ⟨t + 1, a5, n5, c5, by omega, by go_num, rfl, T5, B5⟩
            case measure => simp [intOf]; omega
          · obtain rfl : t = m := by omega
            have LI := Lib.hid (rlimbs_any _ _ wr O3.out (by have := pow_len (t := t) X1.out; omega))
            rw [Nt.bv_bd] at LI
            go_wp2_with (go_at_call 56; (with_reducible refine LI.out.mono ?_); rintro e w5 ⟨a5, n5, c5, rfl, t5, b5⟩)
            go_ret2
            rw [E.out]
            exact ⟨_, _, _, rfl, t5, bring b5 (bring B3.out B2.out)⟩
end Go.Proofs.YtlmigbfpdbkkjaaDoor
