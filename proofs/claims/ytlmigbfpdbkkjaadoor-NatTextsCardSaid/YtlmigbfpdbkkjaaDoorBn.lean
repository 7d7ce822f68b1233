/- The reference's Text. -/
import Derived.Test.YtlmigbfpdbkkjaaDoorBm
import Derived.Test.YtlmigbfpdbkkjaaDoorTb
namespace Go.Proofs.YtlmigbfpdbkkjaaDoor
open Go.RowKit

namespace Nt
/-- What Text's loop has written. -/
def Wt (X Y : Nat) (S : List UInt8) : Prop := ((Pos.dig 10 Y).map dby).reverse ++ S = ((Pos.dig 10 X).map dby).reverse
theorem Wt.start (X : Nat) : Wt X X [] := List.append_nil _
theorem Wt.next {X Y : Nat} {S : List UInt8} (h : Wt X Y S) (hy : Y ≠ 0) : Wt X (Y / 10) (dby (Y % 10) :: S) := by
  unfold Wt at *
  rw [Pos.dig_step (by decide) hy, List.map_cons, List.reverse_cons, List.append_assoc] at h
  exact h
theorem Wt.done {X : Nat} {S : List UInt8} (h : Wt X 0 S) (hx : X ≠ 0) : S = txt X := by
  unfold Wt at h
  rw [Pos.dig_zero] at h
  unfold txt
  rw [if_neg hx]
  exact h
theorem Wt.len {X Y : Nat} {S : List UInt8} (h : Wt X Y S) : S.length ≤ (Pos.dig 10 X).length := by
  have := congrArg List.length h
  simp at this
  omega
theorem digit_sum : ∀ R, R < 10 → (bd R).getD 0 0 + 2 * (bd R).getD 1 0 + 4 * (bd R).getD 2 0 + 8 * (bd R).getD 3 0 = R := by decide
theorem ten_bits : bd 10 = [0, 1, 0, 1] := by decide
theorem less_bits {Y k : Nat} (h : (bd Y).length ≤ k + 1) : (bd (Y / 10)).length ≤ k := by
  rw [bd_len] at h ⊢
  rw [Nat.pow_succ] at h
  generalize 2 ^ k = P at *
  omega
theorem pow_ten (b : Nat) : (2 : Nat) ^ (10 * b) ≤ 10 ^ (4 * b) := by rw [Nat.pow_mul, Nat.pow_mul]; exact Nat.pow_le_pow_left (by decide) b
theorem bits_of_limbs {X k : Nat} {l : List Nat} (hf : Fit l) (hX : X = val l) (hl : 32 * l.length ≤ k) : (bd X).length ≤ k := by
  rw [bd_len, hX]
  have h1 : val l < B ^ l.length := Pos.val_lt hf
  exact Nat.lt_of_lt_of_le h1 (by rw [← pow_limb]; exact Nat.pow_le_pow_right (by decide) hl)
theorem dig10_len {X : Nat} {l : List Nat} (hf : Fit l) (hX : X = val l) (hl : l.length ≤ 40) : (Pos.dig 10 X).length ≤ 512 := by
  obtain ⟨F, hF⟩ : ∃ F, F = 512 := ⟨_, rfl⟩
  obtain ⟨E, hE⟩ : ∃ E, E = 1280 := ⟨_, rfl⟩
  rw [← hF, Pos.dig_len (by decide), hX]
  have hle : 32 * l.length ≤ E := by omega
  obtain ⟨b, hb⟩ : ∃ b, b = 128 := ⟨_, rfl⟩
  have e1 : E = 10 * b := by omega
  have e2 : F = 4 * b := by omega
  clear hE hb
  have h1 : val l < B ^ l.length := Pos.val_lt hf
  have h2 : B ^ l.length ≤ 2 ^ E := by rw [← pow_limb]; exact Nat.pow_le_pow_right (by decide) hle
  have h3 : (2 : Nat) ^ E ≤ 10 ^ F := by
    rw [e1, e2]
    exact pow_ten b
  exact Nat.lt_of_lt_of_le h1 (Nat.le_trans h2 h3)
end Nt
theorem ten_bt (w : World) (b : Nat) (hb : b = w.heap.size) : Bt (w.alloc (.cells #[.int .i64 0, .int .i64 1, .int .i64 0, .int .i64 1] 3)) (.slice (some ⟨b, 0, none⟩) 4 4) (Nt.bd 10) := by
  have hb' := Nt.bits_bd 10
  rw [Nt.ten_bits] at hb' ⊢
  refine ⟨_, 4, rfl, hb', fun e => (by cases e), Nat.le_refl _, Or.inr ⟨b, 0, rfl, fun j hj => ?_⟩⟩
  rw [Nat.zero_add]
  match j, hj with
  | 0, _ => exact cell_at w _ _ 0 _ b hb rfl
  | 1, _ => exact cell_at w _ _ 1 _ b hb rfl
  | 2, _ => exact cell_at w _ _ 2 _ b hb rfl
  | 3, _ => exact cell_at w _ _ 3 _ b hb rfl
  | (n + 4), hj => simp at hj; omega
theorem dig_conv {d : Nat} (w : World) (h : d < 10) : (convert 71 9 (.slice (some ⟨w.heap.size, 0, none⟩) 1 1)).run Tryd.prog (w.alloc (.cells #[.int .u8 (48 + (d : Int))] 5)) = .ok (.string ⟨[Nt.dby d].toArray⟩) (w.alloc (.cells #[.int .u8 (48 + (d : Int))] 5)) := by
  refine run_convert_bytes_back _ _ _ 5 ⟨w.heap.size, 0, none⟩ _ [Nt.dby d] Tryd.underlying71 Tryd.underlying5 Tryd.underlying9 fun j hj => ?_
  have : j = 0 := by simp at hj; exact hj
  subst this
  have e : (48 : Int) + (d : Int) = (([Nt.dby d][0] : UInt8).toNat : Int) := by
    show _ = ((Nt.dby d).toNat : Int)
    rw [Nt.dby_nat h]; omega
  rw [← e]
  exact cell_at w _ _ 0 _ _ rfl rfl
set_option maxRecDepth 100000 in
set_option maxHeartbeats 1600000 in
theorem rtext_any (v : Value) (l : List Nat) (w : World) (h : Lm w v l) (hl : l.length ≤ 40) :
    Calls Tryd.prog 28 #[v] w fun e w' => e = .returned (.tuple #[.string ⟨(Nt.txtR l).1.toArray⟩, .int .i64 (Nt.txtR l).2]) ∧ Below w.heap.size w w' := by
  have LV := Lib.hid h
  obtain ⟨a, c, rfl, hf, ha, hcap, h⟩ := h
  obtain ⟨n, hn⟩ : ∃ n, n = l.length := ⟨_, rfl⟩
  rw [← hn] at hcap LV ⊢
  cases hrl : Nt.rg l with
  | false =>
    have R := Lib.hid (rright_b _ l false w LV.out hrl)
    have E : Hid (Nt.txtR l = ([], 2)) := by show _ = _; unfold Nt.txtR; rw [if_neg (by simp [hrl])]
    clear h hf ha hrl hn LV
    go_enter Tryd.func28, Tryd.ntmps28
    go_wp2_with (go_at_call 49; (with_reducible refine R.out.mono ?_); rintro e w1 ⟨rfl, rfl⟩)
    go_ret2
    rw [E.out]
    exact ⟨rfl, Below.refl _ _⟩
  | true =>
    have R := Lib.hid (rright_b _ l true w LV.out hrl)
    by_cases n0 : n = 0
    · subst n0
      have E : Hid (Nt.txtR l = ([48], 0)) := by
        show _ = _
        rw [List.eq_nil_of_length_eq_zero hn.symm]; unfold Nt.txtR; rw [if_pos Nt.rg_nil]; rfl
      clear h hf ha hrl hn LV
      go_enter Tryd.func28, Tryd.ntmps28
      go_wp2_with (go_at_call 49; (with_reducible refine R.out.mono ?_); rintro e w1 ⟨rfl, rfl⟩)
      go_ret2
      rw [E.out]
      exact ⟨rfl, Below.refl _ _⟩
    · obtain ⟨X, hX⟩ : ∃ X, X = Nt.val l := ⟨_, rfl⟩
      have X0 : Hid (X ≠ 0) := by
        show X ≠ 0
        rw [hX, Ne, Nt.val_zero hf hrl]
        intro e; rw [e] at hn; exact n0 hn
      have E : Hid (Nt.txtR l = (Nt.txt X, 0)) := by show _ = _; unfold Nt.txtR; rw [if_pos hrl, hX]
      have XL := Lib.hid (Nt.dig10_len hf hX (by omega))
      have XB : Hid ((Nt.bd X).length ≤ 1280) := by
        show _ ≤ _
        have hle : 32 * l.length ≤ 1280 := by omega
        exact Nt.bits_of_limbs hf hX hle
      have BT := Lib.hid (rbits_any _ l w LV.out (by omega))
      rw [← hX] at BT
      clear h hf ha hrl hn LV hX
      go_enter Tryd.func28, Tryd.ntmps28
      go_wp2_with (first | (go_at_call 49; (with_reducible refine R.out.mono ?_); rintro e w1 ⟨rfl, rfl⟩)  | (go_at_call 50; (with_reducible refine BT.out.mono ?_); rintro e w2 ⟨a2, n2, c2, rfl, t2, b2⟩; have T2 := Lib.hid t2; have B2 := Lib.hid b2; clear t2 b2))
      go_loopw [4, 5] (fun s b wr => ∃ (Y : Nat) (S : List UInt8) (a : Option Addr) (k c : Nat), s = .string ⟨S.toArray⟩ ∧ b = .slice a k c ∧ S.length ≤ 512 ∧ k ≤ 1280 ∧ Hid (k = (Nt.bd Y).length) ∧ Hid (Nt.Wt X Y S) ∧ Hid (Bt wr (.slice a k c) (Nt.bd Y)) ∧ Hid (Below w.heap.size w wr)) (fun _ b _ => (match b with | .slice _ k _ => k | _ => 0) + 1)
      case atStart =>
        obtain ⟨_, e2, _⟩ := T2.out.cap
        exact ⟨X, [], a2, n2, c2, rfl, rfl, by simp, by rw [e2]; exact XB.out, e2, Nt.Wt.start X, T2, B2⟩
      case round =>
        obtain ⟨Y, S, a3, k3, c3, rfl, rfl, SL, KL, KE, WT, O3, B3⟩ := hrel
        by_cases y0 : Y = 0
        · subst y0
          obtain rfl : k3 = 0 := KE.out
          have ED := Lib.hid (WT.out.done X0.out)
          go_wp2
          go_ret2
          rw [E.out, ← ED.out]
          exact ⟨rfl, B3.out⟩
        · obtain ⟨j, rfl⟩ : ∃ j, k3 = j + 1 := by
            refine ⟨k3 - 1, ?_⟩
            have : k3 ≠ 0 := fun e => y0 (by
              have h1 := (Nt.bd_len Y 0).1 (by rw [← KE.out, e]; exact Nat.le_refl _)
              rw [Nat.pow_zero] at h1; omega)
            omega
          have DM := Lib.hid (fun v u w' (h : Bt w' v (Nt.bd Y)) (h' : Bt w' u (Nt.bd 10)) => rdivmod_any v u Y 10 w' h h' (by rw [← KE.out]; omega) (by rw [Nt.ten_bits]; decide) (by decide))
          have DS := Lib.hid (Nt.digit_sum (Y % 10) (Nat.mod_lt _ (by decide)))
          have WN := Lib.hid (WT.out.next y0)
          have KN := Lib.hid (Nt.less_bits (Y := Y) (k := j) (by rw [← KE.out]; exact Nat.le_refl _))
          have BB := Lib.hid (Nt.bits_bd (Y % 10))
          have r10 : Y % 10 < 10 := Nat.mod_lt _ (by decide)
          obtain ⟨R10, hR⟩ : ∃ r, r = Y % 10 := ⟨_, rfl⟩
          rw [← hR] at DM DS WN BB r10
          obtain ⟨x0, h0⟩ : ∃ x, x = (Nt.bd R10).getD 0 0 := ⟨_, rfl⟩
          obtain ⟨x1, h1⟩ : ∃ x, x = (Nt.bd R10).getD 1 0 := ⟨_, rfl⟩
          obtain ⟨x2, h2⟩ : ∃ x, x = (Nt.bd R10).getD 2 0 := ⟨_, rfl⟩
          obtain ⟨x3, h3⟩ : ∃ x, x = (Nt.bd R10).getD 3 0 := ⟨_, rfl⟩
          have A0 := Lib.hid (fun v w' (h : Bt w' v (Nt.bd R10)) => (show Calls Tryd.prog 52 #[v, .int .i64 0] w' (fun e w'' => e = .returned (.int .i64 (x0 : Nat)) ∧ w' = w'') from h0 ▸ rat_any v _ 0 w' h))
          have A1 := Lib.hid (fun v w' (h : Bt w' v (Nt.bd R10)) => (show Calls Tryd.prog 52 #[v, .int .i64 1] w' (fun e w'' => e = .returned (.int .i64 (x1 : Nat)) ∧ w' = w'') from h1 ▸ rat_any v _ 1 w' h))
          have A2 := Lib.hid (fun v w' (h : Bt w' v (Nt.bd R10)) => (show Calls Tryd.prog 52 #[v, .int .i64 2] w' (fun e w'' => e = .returned (.int .i64 (x2 : Nat)) ∧ w' = w'') from h2 ▸ rat_any v _ 2 w' h))
          have A3 := Lib.hid (fun v w' (h : Bt w' v (Nt.bd R10)) => (show Calls Tryd.prog 52 #[v, .int .i64 3] w' (fun e w'' => e = .returned (.int .i64 (x3 : Nat)) ∧ w' = w'') from h3 ▸ rat_any v _ 3 w' h))
          have ds := DS.out
          rw [← h0, ← h1, ← h2, ← h3] at ds
          have b0 := Nt.bit_at BB.out 0
          have b1 := Nt.bit_at BB.out 1
          have b2 := Nt.bit_at BB.out 2
          have b3 := Nt.bit_at BB.out 3
          rw [← h0] at b0
          rw [← h1] at b1
          rw [← h2] at b2
          rw [← h3] at b3
          have eD : (48 : Int) + (x0 : Int) + 2 * (x1 : Int) + 4 * (x2 : Int) + 8 * (x3 : Int) = ((48 + R10 : Nat) : Int) := by omega
          have CV : ∀ w : World, (convert 71 9 (.slice (some ⟨w.heap.size, 0, none⟩) 1 1)).run Tryd.prog (w.alloc (.cells #[.int .u8 (48 + (R10 : Int))] 5)) = .ok (.string ⟨[Nt.dby R10].toArray⟩) (w.alloc (.cells #[.int .u8 (48 + (R10 : Int))] 5)) := fun w => dig_conv w r10
          have AD : ∀ W : World, (Op.stringOp .add ⟨[Nt.dby R10].toArray⟩ ⟨S.toArray⟩).run Tryd.prog W = .ok (.string ⟨(Nt.dby R10 :: S).toArray⟩) W := fun W => by
            rw [show (⟨(Nt.dby R10 :: S).toArray⟩ : ByteArray) = ⟨[Nt.dby R10].toArray⟩ ++ ⟨S.toArray⟩ from (app [Nt.dby R10] S).symm]
            refine Go.run_string_add_sum W _ _ ?_
            show ([Nt.dby R10].toArray).size + (S.toArray).size ≤ _
            rw [List.size_toArray, List.size_toArray, List.length_singleton]; omega
          have SL' : Hid ((Nt.dby R10 :: S).length ≤ 512) := Nat.le_trans WN.out.len XL.out
          clear h0 h1 h2 h3 hR ds y0
          go_wp2_with (first | (go_at_call 51; (with_reducible refine (DM.out _ _ _ (O3.out.below ((Below.refl _ _).alloc (Nat.le_refl _) _)) (ten_bt _ _ rfl)).mono ?_); rintro e w5 ⟨a5, n5, c5, a6, n6, c6, rfl, t5, t6, b5⟩; have T5 := Lib.hid t5; have n5k : n5 ≤ 1280 := (by obtain ⟨_, e5, _⟩ := t5.cap; rw [e5]; exact Nat.le_trans KN.out (by omega)); have B5 := Lib.hid (bring b5 (made B3.out _)); clear t5 b5)  | (go_at_call 52; (with_reducible refine (A0.out _ _ t6).mono ?_); rintro e w7 ⟨rfl, rfl⟩)  | (go_at_call 52; (with_reducible refine (A1.out _ _ t6).mono ?_); rintro e w7 ⟨rfl, rfl⟩)  | (go_at_call 52; (with_reducible refine (A2.out _ _ t6).mono ?_); rintro e w7 ⟨rfl, rfl⟩)  | (go_at_call 52; (with_reducible refine (A3.out _ _ t6).mono ?_); rintro e w7 ⟨rfl, rfl⟩))
          have KE5 : Hid (n5 = (Nt.bd (Y / 10)).length) := T5.out.cap.2.1
          have N5 : n5 ≤ j := by rw [KE5.out]; exact KN.out
          go_roundw
          case rel => exact ⟨Y / 10, Nt.dby R10 :: S, a5, n5, c5, rfl, rfl, SL'.out, n5k, KE5, WN, (show Bt _ _ _ from T5.out.below ((Below.refl _ _).alloc (Nat.le_refl _) _)), (show Below _ _ _ from made B5.out _)⟩
          case measure => show n5 + 1 < j + 1 + 1; omega
end Go.Proofs.YtlmigbfpdbkkjaaDoor
