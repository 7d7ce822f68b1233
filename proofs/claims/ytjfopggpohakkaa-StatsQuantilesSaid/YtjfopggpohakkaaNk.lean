/- Contract of Mul. -/
import Derived.Test.YtjfopggpohakkaaNj
namespace Go.Proofs.Ytjfopggpohakkaa
open Go.RowKit

/-- A round of the product. -/
theorem mul_arith {B T R Q D c x A M n k : Nat} (hP : T + B ^ k * (Q + B ^ (n + 1) * D) = A * M) (hr : R + B ^ (n + 1) * c = Q + x * M) (hA : A + B ^ k * x < B ^ (k + 1)) (hM : M < B ^ n) :
    T + B ^ k * (R + B ^ (n + 1) * D) = (A + B ^ k * x) * M := by
  have e1 : (A + B ^ k * x) * M = A * M + B ^ k * (x * M) := by rw [Nat.add_mul, Nat.mul_assoc]
  have lt : (A + B ^ k * x) * M < B ^ (k + 1) * B ^ n := Nat.mul_lt_mul'' hA hM
  have pe : B ^ (k + 1) * B ^ n = B ^ k * B ^ (n + 1) := by rw [← Nat.pow_add, ← Nat.pow_add]; congr 1; omega
  rw [pe, e1, ← hP] at lt
  have e2 : B ^ k * R + B ^ k * (B ^ (n + 1) * c) = B ^ k * Q + B ^ k * (x * M) := by rw [← Nat.mul_add, ← Nat.mul_add, hr]
  rw [e1, ← hP]
  have c0 : c = 0 := by
    refine Nat.eq_zero_of_not_pos fun hc => ?_
    have m1 := Nat.mul_le_mul_left (B ^ (n + 1)) (show 1 ≤ c from hc)
    have m2 := Nat.mul_le_mul_left (B ^ k) m1
    rw [Nat.mul_one] at m2
    rw [Nat.mul_add] at lt
    omega
  subst c0
  rw [Nat.mul_zero, Nat.mul_zero, Nat.add_zero] at e2
  rw [Nat.mul_add, Nat.mul_add]
  omega
theorem mul_round {P l m r : List Nat} {k n N c x : Nat} (hl : Nt.Fit l) (hm : Nt.Fit m) (hk : k < l.length) (hn : n = m.length) (hx : x = l.getD k 0) (hN : P.length = N) (hkn : k + (n + 1) ≤ N)
    (hP : Nt.val P = Nt.val (l.take k) * Nt.val m) (rl : r.length = n + 1) (hr : Nt.val r + Nt.B ^ (n + 1) * c = Nt.val (Nt.part P k (n + 1)) + x * Nt.val m) :
    Nt.val (Go.splice P k r) = Nt.val (l.take (k + 1)) * Nt.val m := by
  have v1 := Nt.val_splice (L := P) (c := r) (o := k) (by omega)
  have v2 := Nt.val_parts (L := P) (o := k) (n := n + 1) (by omega)
  have v3 : Nt.val (l.take (k + 1)) = Nt.val (l.take k) + Nt.B ^ k * x := by rw [hx]; exact Pos.val_take Nt.B l k
  have b1 := Nt.val_lt (Nt.fit_take hl (k + 1))
  rw [List.length_take, Nat.min_eq_left (by omega), v3] at b1
  have b2 := Nt.val_lt hm
  rw [← hn] at b2
  rw [v2] at hP
  rw [v1, v3, rl]
  exact mul_arith hP hr b1 b2
theorem mul_numR {l m : List Nat} (h : Nt.rg l = true) (h' : Nt.rg m = true) : Nt.mulR l m = Nt.numR (Nt.val l * Nt.val m) := by
  unfold Nt.mulR Nt.numR; rw [if_pos ⟨h, h'⟩]
theorem mul_no {l m : List Nat} (h : ¬ (Nt.rg l = true ∧ Nt.rg m = true)) : Nt.mulR l m = ([], 2) := by
  unfold Nt.mulR; rw [if_neg h]
theorem val_top_ge {b : Nat} {l : List Nat} (h : Pos.Ok b l) (h0 : 0 < l.length) : b ^ (l.length - 1) ≤ Pos.val b l := by
  cases l with
  | nil => simp at h0
  | cons x xs => exact Pos.val_ge h
theorem mul_long {l m : List Nat} (hl : Nt.Fit l) (hm : Nt.Fit m) (h : Nt.rg l = true) (h' : Nt.rg m = true) (hlen : 1025 < l.length + m.length) : Nt.numR (Nt.val l * Nt.val m) = ([], 3) := by
  have n1 := ((Nt.rg_iff l).1 h).1
  have n2 := ((Nt.rg_iff m).1 h').1
  have g1 := val_top_ge (Nt.ok_of hl h) (by omega)
  have g2 := val_top_ge (Nt.ok_of hm h') (by omega)
  have g3 := Nat.mul_le_mul g1 g2
  rw [← Nat.pow_add] at g3
  obtain ⟨k, hk⟩ : ∃ k, k = 1024 := ⟨_, rfl⟩
  have g4 := Nat.pow_le_pow_right Nt.B_pos (show k ≤ l.length - 1 + (m.length - 1) by omega)
  rw [← Nt.top_pow hk] at g4
  have g5 : Nt.top ≤ Nt.val l * Nt.val m := Nat.le_trans g4 g3
  unfold Nt.numR
  rw [if_neg (Nat.not_lt.2 g5)]
/-- The state of the product. -/
structure MuI (l m : List Nat) (N : Nat) (w wr : World) (k : Nat) (P : List Nat) : Prop where
  len : P.length = N
  eq : Nt.val P = Nt.val (l.take k) * Nt.val m
  row : Rw wr w.heap.size P
  bel : Below w.heap.size w wr
set_option maxRecDepth 100000 in
set_option maxHeartbeats 3200000 in
theorem mul3_any (v u : Value) (l m : List Nat) (w : World) (h : Lm w v l) (h' : Lm w u m) :
    Calls Try.prog 35 #[v, u] w fun e w' => ∃ a n c, e = .returned (.tuple #[.slice a n c, .int .i64 (Nt.mulR l m).2]) ∧ Lm w' (.slice a n c) (Nt.mulR l m).1 ∧ Below w.heap.size w w' := by
  have LV := Lib.hid h
  have LU := Lib.hid h'
  obtain ⟨a, c, rfl, hf, ha, hcap, h⟩ := h
  obtain ⟨a', c', rfl, hf', ha', hcap', -⟩ := h'
  obtain ⟨n, hn⟩ : ∃ n, n = l.length := ⟨_, rfl⟩
  obtain ⟨n', hn'⟩ : ∃ n, n = m.length := ⟨_, rfl⟩
  rw [← hn] at hcap LV h ⊢
  rw [← hn'] at hcap' LU ⊢
  cases hrl : Nt.rg l with
  | false =>
    have R := Lib.hid (right_b3 _ l false w LV.out hrl)
    have E := Lib.hid (mul_no (l := l) (m := m) (fun x => by rw [hrl] at x; cases x.1))
    clear h hn hn' hf hf' ha ha' hrl
    go_enter Try.func35, Try.ntmps35
    go_wp2_with (go_at_call 60; with_reducible refine R.out.mono ?_; rintro e w2 ⟨rfl, rfl⟩)
    go_ret2
    rw [E.out]
    exact ⟨_, _, _, rfl, Lm.nil _, Below.refl _ _⟩
  | true =>
    cases hrm : Nt.rg m with
    | false =>
      have R := Lib.hid (right_b3 _ l true w LV.out hrl)
      have R' := Lib.hid (right_b3 _ m false w LU.out hrm)
      have E := Lib.hid (mul_no (l := l) (m := m) (fun x => by rw [hrm] at x; cases x.2))
      clear h hn hn' hf hf' ha ha' hrl hrm
      go_enter Try.func35, Try.ntmps35
      go_wp2_with (first
        | (go_at_call 60; with_reducible refine R.out.mono ?_; rintro e w2 ⟨rfl, rfl⟩)
        | (go_at_call 60; with_reducible refine R'.out.mono ?_; rintro e w2 ⟨rfl, rfl⟩))
      go_ret2
      rw [E.out]
      exact ⟨_, _, _, rfl, Lm.nil _, Below.refl _ _⟩
    | true =>
      have R := Lib.hid (right_b3 _ l true w LV.out hrl)
      have R' := Lib.hid (right_b3 _ m true w LU.out hrm)
      have E := Lib.hid (mul_numR hrl hrm)
      have nl : n ≤ 1024 := by rw [hn]; exact ((Nt.rg_iff l).1 hrl).1
      have nm : n' ≤ 1024 := by rw [hn']; exact ((Nt.rg_iff m).1 hrm).1
      by_cases hlong : 1025 < n + n'
      · have E2 := Lib.hid (mul_long hf hf' hrl hrm (by omega))
        clear h hn hn' hf hf' ha ha' hrl hrm
        go_enter Try.func35, Try.ntmps35
        go_wp2_with (first
          | (go_at_call 60; with_reducible refine R.out.mono ?_; rintro e w2 ⟨rfl, rfl⟩)
          | (go_at_call 60; with_reducible refine R'.out.mono ?_; rintro e w2 ⟨rfl, rfl⟩))
        go_ret2
        rw [E.out, E2.out]
        exact ⟨_, _, _, rfl, Lm.nil _, Below.refl _ _⟩
      · obtain ⟨N, hN⟩ : ∃ N, N = n + n' := ⟨_, rfl⟩
        have N3 : N ≤ 1025 := by omega
        have NI : (n : Int) + (n' : Int) = (N : Int) := by omega
        have HN := Lib.hid hn
        have HN' := Lib.hid hn'
        have HNN := Lib.hid hN
        have HF := Lib.hid hf
        have HF' := Lib.hid hf'
        have H := Lib.hid h
        obtain ⟨i0, hi, hz0, hz1, hz2⟩ := info_parts info_limb
        have BB4 : i0.bytes * N ≤ 281474976710656 := by rw [hz2]; omega
        clear h hn hn' hf hf' ha ha' hrl hrm hN
        go_enter Try.func35, Try.ntmps35
        go_wp2_with (first
          | (go_at_call 60; with_reducible refine R.out.mono ?_; rintro e w2 ⟨rfl, rfl⟩)
          | (go_at_call 60; with_reducible refine R'.out.mono ?_; rintro e w2 ⟨rfl, rfl⟩)
          | (refine wpList_make_full _ rfl _ _ 29 rfl w.heap.size 55 i0 (.int .u32 0) 1 Try.underlying29 hi hz0 hz1 .i64 .i64 _ _ N rfl rfl (by omega) (by omega) BB4 (by unfold maxLen; omega) (Nat.le_refl _) ?_; intro w2 hown hgrow; have HG2 := Lib.hid (made_rf hown); have HB2 := Lib.hid ((Below.refl _ w).grown hgrow (Nat.le_refl _) (fun k hk => by cases hk)); clear hown hgrow))
        have J0 : Hid (MuI l m N w w2 0 (List.replicate N 0)) := ⟨List.length_replicate, by rw [Nt.val_zeros]; show 0 = 0 * _; rw [Nat.zero_mul], HG2.out.rw, HB2.out⟩
        go_loopw [31] (fun i wr => ∃ (k : Nat) (P : List Nat), k ≤ n ∧ i = .int .i64 k ∧ Hid (MuI l m N w wr k P)) (fun i _ => n + 1 - (intOf i).toNat)
        case atStart => exact ⟨0, _, Nat.zero_le _, rfl, J0⟩
        case round =>
          obtain ⟨k, P, hk, rfl, J⟩ := hrel
          by_cases hlt : k < n
          · rcases H.out with h0 | ⟨b, off, rfl, hc⟩
            · exfalso; have := HN.out; rw [h0] at this; simp at this; omega
            have c0 := hc k hlt
            have C1 := (J.out.bel.cell (World.block_lt_of_cell? _ _ c0)).trans c0
            obtain ⟨x, hx⟩ : ∃ x, x = l.getD k 0 := ⟨_, rfl⟩
            have X0 := Nt.getD_lt HF.out k
            rw [← hx] at C1 X0
            have HX := Lib.hid hx
            have X1 := Lib.hid X0
            have KN : k + (n' + 1) ≤ N := by have := HNN.out; omega
            have PT : Hid (Calls Try.prog 61 #[.slice (some ⟨w.heap.size, k, none⟩) (k + n' + 1 - k) (N - k), .slice a' n' c', .int .u32 (x : Nat)] wr fun e w' => ∃ r cy, e = .returned (.int .u32 (cy : Nat)) ∧ Hid (MuI l m N w w' (k + 1) (Go.splice P k r))) := by
              show Calls _ _ _ _ _
              rw [show k + n' + 1 - k = n' + 1 by omega]
              refine (put_any w.heap.size k (n' + 1) (N - k) x P m _ wr J.out.row (by rw [J.out.len]; exact KN) (by omega) (by omega) ((LU.out.lx (Nat.le_refl _)).sv (Sv.of_below J.out.bel)) X0).mono ?_
              rintro e w4 ⟨r, cy, rfl, -, rl, rf, re, rr, rs⟩
              rw [List.take_of_length_le (by have := HN'.out; omega)] at re
              refine ⟨r, cy, rfl, (?_ : MuI _ _ _ _ _ _ _)⟩
              exact ⟨by rw [length_splice _ _ _ (by rw [J.out.len]; omega)]; exact J.out.len, mul_round HF.out HF'.out (by have := HN.out; omega) HN'.out hx J.out.len KN J.out.eq rl re, rr, Sv.below J.out.bel rs (Nat.le_refl _) J.out.bel.size⟩
            clear hc c0 hx X0
            go_wp2_with (go_at_call 61; with_reducible refine PT.out.mono ?_; rintro e w4 ⟨r, cy, rfl, J4⟩)
            go_roundw
            case rel => exact ⟨k + 1, _, by omega, by go_num, J4⟩
            case measure => simp [intOf]; omega
          · have e : k = n := by omega
            subst e
            have L4 := J.out.row.lm (c := N) (by rw [J.out.len]; exact Nat.le_refl _)
            rw [J.out.len] at L4
            have NB := Lib.hid (number3_any _ P (Nt.val l * Nt.val m) wr L4 (by rw [J.out.len]; omega) (by rw [J.out.eq, List.take_of_length_le (Nat.le_of_eq HN.out.symm)]))
            clear L4
            go_wp2_with (go_at_call 62; with_reducible refine NB.out.mono ?_; rintro e w5 ⟨a5, n5, c5, rfl, l5, q5⟩; have L5 := Lib.hid l5; have Q5 := Lib.hid q5; clear l5 q5)
            go_ret2
            rw [E.out]
            exact ⟨_, _, _, rfl, L5.out, J.out.bel.trans (Q5.out.bl.mono J.out.bel.size)⟩
end Go.Proofs.Ytjfopggpohakkaa
