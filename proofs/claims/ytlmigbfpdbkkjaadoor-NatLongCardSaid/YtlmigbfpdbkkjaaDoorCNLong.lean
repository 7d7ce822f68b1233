/- NatLong: its walk. -/
import Derived.Test.YtlmigbfpdbkkjaaDoorLg
import Derived.Deep.DeepCutAuto
namespace Go.Proofs.YtlmigbfpdbkkjaaDoor
open Go.RowKit

theorem Lm.open {w : World} {a : Option Addr} {n c : Nat} {l : List Nat} (h : Lm w (.slice a n c) l) (h0 : l ≠ []) : ∃ g off, a = some ⟨g, off, none⟩ ∧ n = l.length ∧ ∀ j, j < l.length → w.cell? ⟨g, off + j, none⟩ = some (.int .u32 (l.getD j 0 : Nat)) := by
  obtain ⟨a', c', e, _, _, _, h⟩ := h
  obtain ⟨rfl, hn, rfl⟩ := Value.slice.inj e
  rcases h with h | ⟨b, off, rfl, h⟩
  · exact absurd h h0
  · exact ⟨b, off, rfl, hn, h⟩
set_option maxRecDepth 100000 in
set_option maxHeartbeats 3200000 in
theorem long_any (m n x y : Nat) (w : World) (hm : m ≤ 65535) (hn : n ≤ 65535) (hx : x ≤ 4294967295) (hy : y ≤ 4294967295) :
    Calls Tryd.prog 10 #[.int .u16 m, .int .u16 n, .int .u32 x, .int .u32 y] w fun e w' => e = .returned (.bool true) ∧ Below w.heap.size w w' := by
  have W0 : Wd (fun _ => True) w w := ⟨trivial, Below.refl _ _⟩
  obtain ⟨X, hX⟩ : ∃ X : Nat, X = max x 1 := ⟨_, rfl⟩
  obtain ⟨Y, hY⟩ : ∃ Y : Nat, Y = max y 1 := ⟨_, rfl⟩
  obtain ⟨i, hi⟩ : ∃ i : Nat, i = m % 1024 := ⟨_, rfl⟩
  obtain ⟨k, hk⟩ : ∃ k : Nat, k = n % 1024 := ⟨_, rfl⟩
  have eX : max (x : Int) 1 = (X : Int) := by omega
  have eY : max (y : Int) 1 = (Y : Int) := by omega
  have ei : (m : Int) % 1024 = (i : Int) := by omega
  have ek : (n : Int) % 1024 = (k : Int) := by omega
  have EX := Lib.hid eX
  have EY := Lib.hid eY
  have EI := Lib.hid ei
  have EK := Lib.hid ek
  have X0 : 0 < X := by omega
  have X1 : X < Nt.B := by show X < 4294967296; omega
  have Y0 : 0 < Y := by omega
  have Y1 : Y < Nt.B := by show Y < 4294967296; omega
  have i1 : i < 1024 := by omega
  have k1 : k < 1024 := by omega
  have BX := Lib.hid X1
  have BY := Lib.hid Y1
  clear eX eY ei ek hX hY hi hk X1 Y1
  have MI := Lib.hid (run_make_row' (P := Tryd.prog) 22 48 (.int .u32 0) 4 Tryd.underlying22 info_limb rfl .i64 .i64 i (by omega) (by omega))
  have MK := Lib.hid (run_make_row' (P := Tryd.prog) 22 48 (.int .u32 0) 4 Tryd.underlying22 info_limb rfl .i64 .i64 k (by omega) (by omega))
  go_enter Tryd.func10, Tryd.ntmps10
  go_upto_region 5 with (first | (go_at_call 12; (with_reducible refine (natc.awake w W0.g).mono ?_); rintro e w0 ⟨rfl, b0⟩; have W1 := W0.step natc b0))
  rw [EX.out, EY.out, EI.out, EK.out]
  go_cut [11, 12] (fun va vb wx => (∃ g c, va = .slice (some ⟨g, 0, none⟩) (i + 1) c ∧ Lm wx va (Nt.zl i [X])) ∧ (∃ g c, vb = .slice (some ⟨g, 0, none⟩) (k + 1) c ∧ Lm wx vb (Nt.zl k [Y])) ∧ Below w0.heap.size w0 wx)
  case first =>
    have mi := MI.out
    have mk := MK.out
    go_region_law (first
      | (refine step_zl rfl (.tmp 31) (.tmp 33) rfl _ i (by rfl) _ (by rfl) X BX.out (by omega) (by intro j hj; repeat (first | (refine made_at _ _ _ _ _ (by simp) hj) | (refine kept_at _ _ _ _ _ ?_))) (by repeat (first | (refine laid_at _ _ _ _ (by simp)) | (refine kept_at _ _ _ _ _ ?_))) ?_; intro g c w1 l1 b1)
      | (refine step_zl rfl (.tmp 36) (.tmp 38) rfl _ k (by rfl) _ (by rfl) Y BY.out (by omega) (by intro j hj; repeat (first | (refine made_at _ _ _ _ _ (by simp) hj) | (refine kept_at _ _ _ _ _ ?_) | (refine far_at _ _ _ b1 ?_))) (by repeat (first | (refine laid_at _ _ _ _ (by simp)) | (refine kept_at _ _ _ _ _ ?_) | (refine far_at _ _ _ b1 ?_))) ?_; intro g' c' w2 l2 b2))
    all_goals (go_wp2_with fail; go_meet; exact ⟨⟨_, _, rfl, l1.below (bring b2 (by (repeat (first | exact Below.refl _ _ | (refine Below.drew ?_) | (refine made ?_ _) | (refine bring b1 ?_)))))⟩, ⟨_, _, rfl, l2⟩, bring b2 (by (repeat (first | exact Below.refl _ _ | (refine Below.drew ?_) | (refine made ?_ _) | (refine bring b1 ?_))))⟩)
  case rest =>
    obtain ⟨⟨ga, ca, rfl, la⟩, ⟨gb, cb, rfl, lb⟩, bl⟩ := hcut
    have W2 := W1.step natc bl
    clear bl
    have ML := Lib.hid (fun v u w (h : Lm w v (Nt.zl i [X])) (h' : Lm w u (Nt.zl k [Y])) => natc.mul v u _ _ w trivial h h')
    rw [Nt.long_mul X0 BX.out Y0 BY.out i1 k1] at ML
    obtain ⟨P, hP⟩ : ∃ P, P = X * Y := ⟨_, rfl⟩
    have P1 : P < 18446744073709551616 := by
      have a1 : X ≤ 4294967295 := Nat.le_of_lt_succ BX.out
      have a2 : Y ≤ 4294967295 := Nat.le_of_lt_succ BY.out
      have := Nat.mul_le_mul a1 a2
      omega
    have P0 : 0 < P := by rw [hP]; exact Nat.mul_pos X0 Y0
    have EP : Hid (IntKind.u64.wrap (IntKind.u64.wrap (X : Int) * IntKind.u64.wrap (Y : Int)) = (P : Int)) := by
      show _ = _
      have a1 : X < 4294967296 := BX.out
      have a2 : Y < 4294967296 := BY.out
      rw [u64_in X (by omega), u64_in Y (by omega), ← Int.natCast_mul, ← hP, u64_in P P1]
    rw [← hP] at ML
    clear hP X0 Y0
    obtain ⟨s, hs⟩ : ∃ s, s = i + k := ⟨_, rfl⟩
    rw [← hs] at ML
    have ES : Hid ((i : Int) + (k : Int) = (s : Int)) := by show _ = _; omega
    have s1 : s ≤ 2046 := by omega
    clear hs
    have ET := Nt.two_len P
    by_cases hl : s + (Nt.two P).length ≤ 1024
    · rw [if_pos hl] at ML
      by_cases hb : P / Nt.B = 0
      · have e1 : Nt.two P = [P] := by
          unfold Nt.two; rw [if_pos hb, Nat.mod_eq_of_lt (by rcases Nat.div_eq_zero_iff.1 hb with h | h; (exact absurd h (by decide)); exact h)]
        rw [e1] at ML hl
        have hp : P < 4294967296 := by rcases Nat.div_eq_zero_iff.1 hb with h | h; (exact absurd h (by decide)); exact h
        have hl' : s + 1 ≤ 1024 := hl
        clear e1 ET hb hl
        have ML' := Lib.hid (fun v u w h h' => (ML.out v u w h h').mono (fun e w' (q : ∃ a n c, e = .returned (.tuple #[.slice a n c, .int .i64 0]) ∧ Lm w' (.slice a n c) (Nt.zl s [P]) ∧ Below w.heap.size w w') => (show ∃ g off c, e = .returned (.tuple #[.slice (some ⟨g, off, none⟩) (s + 1) c, .int .i64 0]) ∧ Hid (∀ j, j < s → w'.cell? ⟨g, off + j, none⟩ = some (.int .u32 0)) ∧ w'.cell? ⟨g, off + s, none⟩ = some (.int .u32 P) ∧ Below w.heap.size w w' from by
          obtain ⟨a, n, c, rfl, l, b⟩ := q
          obtain ⟨g, off, rfl, rfl, hc⟩ := l.open (by simp [Nt.zl])
          exact ⟨g, off, c, by rw [Nt.zl_len]; rfl, fun j hj => by rw [hc j (by rw [Nt.zl_len]; exact Nat.lt_succ_of_lt hj), Nt.zl_low s _ j hj]; rfl, by rw [hc s (by rw [Nt.zl_len]; exact Nat.lt_succ_self s)]; have := Nt.zl_high s [P] 0; rw [Nat.add_zero] at this; rw [this]; rfl, b⟩)))
        clear ML
        go_upto_region 8 with (first | (go_at_call 16; (with_reducible refine (ML'.out _ _ _ la lb).mono ?_); rintro e w3 ⟨g3, o3, c3, rfl, z3, p3, b3⟩; have W3 := W2.step natc b3))
        rw [EP.out]
        go_upto_region 9 with fail
        have es := ES.out
        rw [es]
        go_upto_region 15 with fail
        go_wp2
        go_loopw [17] (fun j wr => ∃ t : Nat, t ≤ s ∧ j = .int .i64 t ∧ Qt w3 wr) (fun j _ => s + 1 - (intOf j).toNat)
        case atStart => exact ⟨0, Nat.zero_le _, rfl, Qt.refl _⟩
        case round =>
          obtain ⟨t, ht, rfl, hq⟩ := hrel
          have HQ := Lib.hid hq
          by_cases hlt : t < s
          · have hck := hq.cell (z3.out t hlt)
            clear hq
            go_wp2
            go_roundw
            case rel => exact ⟨t + 1, by omega, by go_num, HQ.out⟩
            case measure => simp [intOf]; omega
          · obtain rfl : t = s := by omega
            clear hq
            go_wp2
            go_ret
            exact ⟨rfl, (W3.step natc HQ.out.bl).bl⟩
      · have e1 : Nt.two P = [P % 4294967296, P / 4294967296] := by
          unfold Nt.two; rw [if_neg hb]; rfl
        rw [e1] at ML hl
        obtain ⟨Q, hQ⟩ : ∃ Q, Q = P / 4294967296 := ⟨_, rfl⟩
        obtain ⟨R, hR⟩ : ∃ R, R = P % 4294967296 := ⟨_, rfl⟩
        have Q0 : 0 < Q := by rw [hQ]; exact Nat.pos_of_ne_zero hb
        have Q1 : Q < 4294967296 := by omega
        have R1 : R < 4294967296 := by omega
        have eQ : Hid ((P : Int) / 4294967296 = (Q : Int)) := by show _ = _; omega
        have eR : Hid (IntKind.u32.wrap (P : Int) = (R : Int)) := by show _ = _; rw [u32_of, hR]; rfl
        rw [← hQ, ← hR] at ML
        have hl' : s + 2 ≤ 1024 := hl
        clear e1 ET hb hl hQ hR
        have ML' := Lib.hid (fun v u w h h' => (ML.out v u w h h').mono (fun e w' (q : ∃ a n c, e = .returned (.tuple #[.slice a n c, .int .i64 0]) ∧ Lm w' (.slice a n c) (Nt.zl s [R, Q]) ∧ Below w.heap.size w w') => (show ∃ g off c, e = .returned (.tuple #[.slice (some ⟨g, off, none⟩) (s + 2) c, .int .i64 0]) ∧ Hid (∀ j, j < s → w'.cell? ⟨g, off + j, none⟩ = some (.int .u32 0)) ∧ w'.cell? ⟨g, off + s, none⟩ = some (.int .u32 R) ∧ w'.cell? ⟨g, off + (s + 1), none⟩ = some (.int .u32 Q) ∧ Below w.heap.size w w' from by
          obtain ⟨a, n, c, rfl, l, b⟩ := q
          obtain ⟨g, off, rfl, rfl, hc⟩ := l.open (by simp [Nt.zl])
          exact ⟨g, off, c, by rw [Nt.zl_len]; rfl, fun j hj => by rw [hc j (by rw [Nt.zl_len]; exact Nat.lt_of_lt_of_le hj (Nat.le_add_right _ _)), Nt.zl_low s _ j hj]; rfl, by rw [hc s (by rw [Nt.zl_len]; exact Nat.lt_add_of_pos_right (Nat.succ_pos _))]; have := Nt.zl_high s [R, Q] 0; rw [Nat.add_zero] at this; rw [this]; rfl, by rw [hc (s + 1) (by rw [Nt.zl_len]; exact Nat.lt_succ_self _)]; have := Nt.zl_high s [R, Q] 1; rw [this]; rfl, b⟩)))
        clear ML
        go_upto_region 8 with (first | (go_at_call 16; (with_reducible refine (ML'.out _ _ _ la lb).mono ?_); rintro e w3 ⟨g3, o3, c3, rfl, z3, p3, p4, b3⟩; have W3 := W2.step natc b3))
        rw [EP.out]
        go_upto_region 9 with fail
        have es := ES.out
        rw [es]
        have eq := eQ.out
        have er := eR.out
        go_upto_region 15 with fail
        go_wp2
        go_loopw [17] (fun j wr => ∃ t : Nat, t ≤ s ∧ j = .int .i64 t ∧ Qt w3 wr) (fun j _ => s + 1 - (intOf j).toNat)
        case atStart => exact ⟨0, Nat.zero_le _, rfl, Qt.refl _⟩
        case round =>
          obtain ⟨t, ht, rfl, hq⟩ := hrel
          have HQ := Lib.hid hq
          by_cases hlt : t < s
          · have hck := hq.cell (z3.out t hlt)
            clear hq
            go_wp2
            go_roundw
            case rel => exact ⟨t + 1, by omega, by go_num, HQ.out⟩
            case measure => simp [intOf]; omega
          · obtain rfl : t = s := by omega
            clear hq
            go_wp2
            go_ret
            exact ⟨rfl, (W3.step natc HQ.out.bl).bl⟩
    · rw [if_neg hl] at ML
      have ML' := Lib.hid (fun v u w h h' => (ML.out v u w h h').mono (fun e w' (q : ∃ a n c, e = .returned (.tuple #[.slice a n c, .int .i64 3]) ∧ Lm w' (.slice a n c) [] ∧ Below w.heap.size w w') => (show ∃ a c, e = .returned (.tuple #[.slice a 0 c, .int .i64 3]) ∧ Below w.heap.size w w' from by
          obtain ⟨a, n, c, rfl, l, b⟩ := q
          obtain ⟨_, hn, _⟩ := l.cap
          have hn' : n = 0 := hn
          subst hn'
          exact ⟨a, c, rfl, b⟩)))
      clear ML
      by_cases hb : P / Nt.B = 0
      · have hp : P < 4294967296 := by rcases Nat.div_eq_zero_iff.1 hb with h | h; (exact absurd h (by decide)); exact h
        rw [if_pos hb] at ET
        have hl' : 1024 ≤ s := by omega
        clear ET hb hl
        go_upto_region 8 with (first | (go_at_call 16; (with_reducible refine (ML'.out _ _ _ la lb).mono ?_); rintro e w3 ⟨g3, c3, rfl, b3⟩; have W3 := W2.step natc b3))
        rw [EP.out]
        go_upto_region 9 with fail
        have es := ES.out
        rw [es]
        go_wp2
        go_ret
        exact ⟨rfl, W3.bl⟩
      · rw [if_neg hb] at ET
        have hl' : 1023 ≤ s := by omega
        obtain ⟨Q, hQ⟩ : ∃ Q, Q = P / 4294967296 := ⟨_, rfl⟩
        have Q0 : 0 < Q := by rw [hQ]; exact Nat.pos_of_ne_zero hb
        have eQ : Hid ((P : Int) / 4294967296 = (Q : Int)) := by show _ = _; omega
        clear ET hb hl hQ
        go_upto_region 8 with (first | (go_at_call 16; (with_reducible refine (ML'.out _ _ _ la lb).mono ?_); rintro e w3 ⟨g3, c3, rfl, b3⟩; have W3 := W2.step natc b3))
        rw [EP.out]
        go_upto_region 9 with fail
        have es := ES.out
        rw [es]
        have eq := eQ.out
        go_wp2
        go_ret
        exact ⟨rfl, W3.bl⟩
end Go.Proofs.YtlmigbfpdbkkjaaDoor
