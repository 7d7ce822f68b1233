/- Contract of DivMod. -/
import Derived.Test.YtjfopggpohakkaaNo
namespace Go.Proofs.Ytjfopggpohakkaa
open Go.RowKit

theorem ret_ssk {a a' b b' : Option Addr} {n n' c c' p p' q q' : Nat} {x y : Int} (h : x = y) (ha : a = a') (hn : n = n') (hc : c = c') (hb : b = b') (hp : p = p') (hq : q = q') : Ending.returned (.tuple #[.slice a n c, .slice b p q, .int .i64 x]) = .returned (.tuple #[.slice a' n' c', .slice b' p' q', .int .i64 y]) := by rw [h, ha, hn, hc, hb, hp, hq]
theorem val_zero_end (l : List Nat) : Nt.val (l ++ [0]) = Nt.val l := by
  rw [val_snoc rfl, Nat.mul_zero, Nat.add_zero]
theorem top_limb {D : List Nat} {nb : Nat} (hf : Nt.Fit D) (hl : D.length = nb + 1) (h : Nt.B ^ nb ≤ Nt.val D) : 0 < D.getD nb 0 := by
  have e := Pos.val_take Nt.B D nb
  rw [List.take_of_length_le (by omega)] at e
  have e' : Nt.val D = Nt.val (D.take nb) + Nt.B ^ nb * D.getD nb 0 := e
  have b := Nt.val_lt (Nt.fit_take hf nb)
  rw [List.length_take, Nat.min_eq_left (by omega)] at b
  refine Nat.pos_of_ne_zero fun c => ?_
  rw [c, Nat.mul_zero] at e'
  omega
theorem top_bound {b m mt v1 t nb : Nat} (hm : mt < b ^ nb) (e : m = mt + b ^ nb * v1) (ht : (v1 + 1) * t ≤ b) (tp : 0 < t) : m * t < b ^ (nb + 1) := by
  have h1 : m < b ^ nb * (v1 + 1) := by rw [Nat.mul_add, Nat.mul_one]; omega
  have h2 := Nat.mul_lt_mul_of_pos_right h1 tp
  have h3 := Nat.mul_le_mul_left (b ^ nb) ht
  rw [← Nat.mul_assoc] at h3
  rw [Nat.pow_succ]
  omega
theorem shl_lt {b v1 t : Nat} (h : (v1 + 1) * t ≤ b) (h0 : v1 ≠ 0) (tp : 0 < t) : t < b := by
  have := Nat.mul_le_mul_right t (show 2 ≤ v1 + 1 by omega)
  omega
theorem shl_val (z t : Nat) (ht : t = 2 ^ z) (h : t < Nt.B) : (2 : Int) ^ z % 4294967296 = (t : Int) := by
  rw [B_is] at h
  have e : (2 : Int) ^ z = (t : Int) := by rw [ht, Int.natCast_pow]; rfl
  rw [e]
  omega
theorem top_ge {b m mt v1 nb : Nat} (e : m = mt + b ^ nb * v1) (h0 : v1 ≠ 0) : b ^ nb ≤ m := by
  rw [e]
  have := Nat.mul_le_mul_left (b ^ nb) (show 1 ≤ v1 by omega)
  omega
theorem zero_src (w2 : World) : ∀ j u, (cv [0])[j]? = some u → (w2.alloc (.cells #[.int .u32 0] 55)).cell? ((⟨w2.heap.size, 0, none⟩ : Addr).add j) = some u := by
  intro j u hj
  obtain ⟨hlt, rfl⟩ := cv_at hj
  have : j = 0 := by simp at hlt; exact hlt
  subst this
  exact cell_at w2 _ _ 0 _ _ rfl rfl
theorem app_below {w w2 w4 : World} {v : Value} {n : Nat} {xs : List Value} (o : Obj) (h : w2.ownsRow w.heap.size 55 1 v n xs) (b : Below w.heap.size w w2) (g : (w2.alloc o).grownBy w4 v.ownBlock) : Below w.heap.size w w4 := by
  have b' := b.alloc b.size o
  exact b'.grown g b'.size (fun k hk => (h.lt k hk).1)
set_option maxRecDepth 100000 in
set_option maxHeartbeats 3200000 in
/-- A divisor that is a number, not zero, and not longer than the dividend. -/
theorem div_long (a a' : Option Addr) (n c nb c' : Nat) (l m : List Nat) (w : World) (LV : Hid (Lm w (.slice a n c) l)) (LU : Hid (Lm w (.slice a' (nb + 1) c') m)) (hn : n = l.length) (hm : nb + 1 = m.length) (hle : nb + 1 ≤ n) (hrl : Nt.rg l = true) (hrm : Nt.rg m = true) :
    Calls Try.prog 99 #[.slice a n c, .slice a' (nb + 1) c'] w fun e w' => ∃ a n c a' n' c', e = .returned (.tuple #[.slice a n c, .slice a' n' c', .int .i64 0]) ∧ Lm w' (.slice a n c) (Nt.dig (Nt.val l / Nt.val m)) ∧ Lm w' (.slice a' n' c') (Nt.dig (Nt.val l % Nt.val m)) ∧ Below w.heap.size w w' := by
  have hf := LV.out.fit
  have hf' := LU.out.fit
  have R := Lib.hid (right_b3 _ l true w LV.out hrl)
  have R' := Lib.hid (right_b3 _ m true w LU.out hrm)
  have nl : n ≤ 1024 := by rw [hn]; exact ((Nt.rg_iff l).1 hrl).1
  have hlast := rg_last hm.symm (by omega)
  rw [hrm] at hlast
  have v0 : m.getD nb 0 ≠ 0 := of_decide_eq_true hlast.symm
  obtain ⟨v1, hv1⟩ : ∃ v1, v1 = m.getD nb 0 := ⟨_, rfl⟩
  have v1B := Nt.getD_lt hf' nb
  rw [← hv1] at v0 v1B
  obtain ⟨z, hz, hzB, LZ0⟩ := lz_any v1 w v1B v0
  obtain ⟨t, ht⟩ : ∃ t, t = 2 ^ z := ⟨_, rfl⟩
  rw [← ht] at hzB
  have tp : 0 < t := by rw [ht]; exact Nat.two_pow_pos z
  have tB : t < Nt.B := shl_lt hzB v0 tp
  have SH : (2 : Int) ^ z % 4294967296 = (t : Int) := shl_val z t ht tB
  have LZ := Lib.hid LZ0
  -- the divisor's highest limb is read
  obtain ⟨b, off, ea, hcell⟩ : ∃ b off, a' = some ⟨b, off, none⟩ ∧ w.cell? ⟨b, off + nb, none⟩ = some (.int .u32 (v1 : Nat)) := by
    obtain ⟨a0, c0, e, _, _, _, h⟩ := LU.out
    obtain ⟨rfl, _, rfl⟩ := Value.slice.inj e
    rcases h with h | ⟨b, off, rfl, h⟩
    · rw [h] at hm; simp at hm
    · exact ⟨b, off, rfl, by rw [hv1]; exact h nb (by omega)⟩
  subst ea
  -- numbers
  have me : Nt.val m = Nt.val (m.take nb) + Nt.B ^ nb * v1 := by
    have e := Pos.val_take Nt.B m nb
    rw [List.take_of_length_le (by omega), ← hv1] at e
    exact e
  have mt : Nt.val (m.take nb) < Nt.B ^ nb := by
    have := Nt.val_lt (Nt.fit_take hf' nb)
    rw [List.length_take, Nat.min_eq_left (by omega)] at this
    exact this
  have mB : Nt.val m * t < Nt.B ^ (nb + 1) := top_bound mt me hzB tp
  have mG : Nt.B ^ nb ≤ Nt.val m := top_ge me v0
  have lB := Nt.val_lt hf
  rw [← hn] at lB
  have lB2 : Nt.val (l ++ [0]) * t < Nt.B ^ (n + 1) := by
    rw [val_zero_end, Nat.pow_succ]
    exact Nat.mul_lt_mul'' lB tB
  have M0 : 0 < Nt.val m := Nat.lt_of_lt_of_le (Nat.pow_pos Nt.B_pos) mG
  obtain ⟨i0, hi, hz0, hz1, hz2⟩ := info_parts info_limb
  have CA : Hid (Calls Try.prog 109 #[.slice a n c] w fun e w' => ∃ v', e = .returned v' ∧ w'.ownsRow w.heap.size 55 1 v' n (cv l) ∧ Below w.heap.size w w') := by
    have := clone_any _ l w LV.out (by omega)
    rw [← hn] at this; exact this
  have CB : Hid (∀ w2, Below w.heap.size w w2 → Calls Try.prog 109 #[.slice (some ⟨b, off, none⟩) (nb + 1) c'] w2 fun e w' => ∃ g c, e = .returned (.slice (some ⟨g, 0, none⟩) (nb + 1) c) ∧ w2.heap.size ≤ g ∧ nb + 1 ≤ c ∧ Rw w' g m ∧ Below w2.heap.size w2 w') := by
    intro w2 hb2
    refine (clone_any _ m w2 (LU.out.below hb2) (by omega)).mono ?_
    rintro e w' ⟨v', rfl, ho, hb⟩
    obtain ⟨g, c, rfl, hB, hc, hr⟩ := own_rw rfl hf' (by omega) ho
    rw [← hm] at hc ⊢
    exact ⟨g, c, rfl, hB, hc, hr, hb⟩
  have FZ : Nt.Fit (l ++ [0]) := Nt.fit_app hf (Nt.fit_one Nt.B_pos)
  have LZN : n + 1 = (l ++ [0]).length := by rw [List.length_append, ← hn]; rfl
  have AP : Hid (∀ w4 v, w4.ownsRow w.heap.size 55 1 v (n + 1) (cv l ++ cv [0]) → ∃ g c, v = .slice (some ⟨g, 0, none⟩) (n + 1) c ∧ w.heap.size ≤ g ∧ n + 1 ≤ c ∧ Rw w4 g (l ++ [0])) := by
    intro w4 v ho
    rw [← cv_app] at ho
    exact own_rw LZN FZ (by omega) ho
  have S1 : Hid (∀ wr g g2 c4, Dv2 w wr g g2 (l ++ [0]) m → n + 1 ≤ c4 → Calls Try.prog 111 #[.slice (some ⟨g, 0, none⟩) (n + 1) c4, .int .u32 (t : Nat), .int .u32 0] wr fun e w' => ∃ R k, e = .returned (.int .u32 k) ∧ Hid (R.length = n + 1 ∧ Nt.val R = Nt.val l * t ∧ Dv2 w w' g g2 R m)) := by
    intro wr g g2 c4 h hc4
    refine (scale1_any g (n + 1) c4 t _ wr h.r1 LZN (by omega) hc4 tB lB2).mono ?_
    rintro e w' ⟨r, k, rfl, rl, rf, re, rr, rs⟩
    rw [val_zero_end, Nat.mul_comm] at re
    exact ⟨r, k, rfl, rl, re, h.on1 rr rs⟩
  have S2 : Hid (∀ wr g g2 c5 R, Dv2 w wr g g2 R m → nb + 1 ≤ c5 → Calls Try.prog 111 #[.slice (some ⟨g2, 0, none⟩) (nb + 1) c5, .int .u32 (t : Nat), .int .u32 0] wr fun e w' => ∃ D k, e = .returned (.int .u32 k) ∧ Hid (D.length = nb + 1 ∧ Nt.val D = t * Nt.val m ∧ Dv2 w w' g g2 R D)) := by
    intro wr g g2 c5 R h hc5
    refine (scale1_any g2 (nb + 1) c5 t _ wr h.r2 hm (by omega) hc5 tB mB).mono ?_
    rintro e w' ⟨r, k, rfl, rl, rf, re, rr, rs⟩
    exact ⟨r, k, rfl, rl, re, h.on2 rr rs⟩
  obtain ⟨M, hM⟩ : ∃ M, n = nb + M ∧ 1 ≤ M := ⟨n - nb, by omega, by omega⟩
  obtain ⟨hM, M1⟩ := hM
  have MI : (n : Int) - ((nb : Int) + 1) + 1 = (M : Int) := by omega
  have BB4 : i0.bytes * M ≤ 281474976710656 := by rw [hz2]; omega
  have ZS := Lib.hid zero_src
  have ZB : Hid (∀ (w2 : World) (o : Obj), Below w.heap.size w w2 → w.heap.size ≤ (w2.alloc o).heap.size) := fun w2 o b => (b.alloc b.size o).size
  have AB := Lib.hid (fun (w2 w4 : World) (v : Value) (o : Obj) h b g => app_below (w := w) (w2 := w2) (w4 := w4) (v := v) (n := n) (xs := cv l) o h b g)
  have ML : n + 1 ≤ maxLen := by unfold maxLen; omega
  have BY : (n + 1) * 4 ≤ 140737488355328 := by omega
  have MQ : Hid (∀ w7 g g2 R D w8, Dv2 w w7 g g2 R D → D.length = nb + 1 → R.length = n + 1 → Nt.val R = Nt.val l * t → Nt.val D = t * Nt.val m → w8.ownsRow w7.heap.size 55 1 (.slice (some ⟨w7.heap.size, 0, none⟩) M M) M (madeCells (Value.int .u32 0).cells (M * 1)).toList → w7.grownBy w8 none → DvI w w8 g g2 w7.heap.size l m D t n (nb + 1) M R (List.replicate M 0)) := by
    intro w7 g g2 R D w8 h ld lr vr vd ho hg
    have hb : Below w7.heap.size w7 w8 := (Below.refl _ w7).grown hg (Nat.le_refl _) (fun k hk => by cases hk)
    have h8 := h.quiet hb
    have l1 := h.r1.lt
    have l2 := h.r2.lt
    have lt : Nt.val (R.drop (n - (nb + 1) + 1)) < Nt.val D := by
      refine Nt.div_first (A := Nt.val l) (t := t) (N := n) (n := nb + 1) (by omega) hle lr vr (by have := Nt.val_lt hf; rw [← hn] at this; exact this) tp ?_
      rw [vd, Nat.add_sub_cancel, Nat.mul_comm t]
      exact Nat.mul_le_mul_right t mG
    rw [show n - (nb + 1) + 1 = M by omega] at lt
    refine ⟨⟨h8, (made_rf ho).rw, by omega, by omega, h.bel.size⟩, lr, by rw [List.length_replicate]; omega, by rw [Nt.val_zeros, Nat.mul_zero, Nat.add_zero, vr], lt, fun j _ => ?_⟩
    rw [List.getD_eq_getElem?_getD]
    cases e : (List.replicate M 0)[j]? with
    | none => rfl
    | some x => exact List.eq_of_mem_replicate (List.mem_of_getElem? e)
  have DB : Hid (∀ D : List Nat, Nt.val D = t * Nt.val m → D.length = nb + 1 → Nt.Fit D → Nt.val D < Nt.B ^ (nb + 1) ∧ 0 < D.getD nb 0) := by
    intro D vd ld fd
    refine ⟨by rw [vd, Nat.mul_comm]; exact mB, top_limb fd ld ?_⟩
    rw [vd]
    exact Nat.le_trans mG (Nat.le_mul_of_pos_left _ tp)
  have HN := Lib.hid hn
  have HMN := Lib.hid hM
  have HF := Lib.hid hf
  clear hf hf' hlast hv1 ht hzB me mt mB lB lB2 FZ LZN hn hm hrl hrm LZ0 v0 v1B hM
  go_enter Try.func99, Try.ntmps99
  go_wp2_with (first
    | (go_at_call 60; with_reducible refine R.out.mono ?_; rintro e w2 ⟨rfl, rfl⟩)
    | (go_at_call 60; with_reducible refine R'.out.mono ?_; rintro e w2 ⟨rfl, rfl⟩)
    | (go_at_call 110; with_reducible refine LZ.out.mono ?_; rintro e w2 ⟨rfl, rfl⟩)
    | (go_at_call 109; with_reducible refine CA.out.mono ?_; rintro e w2 ⟨v2, rfl, o2, b2⟩; have O2 := Lib.hid o2; have B2 := Lib.hid b2; clear o2 b2)
    | (at_builtin; refine wpList_append_own _ rfl _ _ 29 rfl w.heap.size 55 i0 (.int .u32 0) 1 4 Try.underlying29 hi hz0 hz1 hz2 rfl (by decide) _ n (cv l) rfl (own_keep O2.out ((Below.refl _ w2).alloc (Nat.le_refl _) _)) ⟨w2.heap.size, 0, none⟩ 1 1 (cv [0]) rfl rfl (ZS.out w2) (cv_one [0]) ML BY (ZB.out w2 _ B2.out) ?_; intro v4 w4 hown hgrow _; have B4 := Lib.hid (AB.out w2 w4 v2 _ O2.out B2.out hgrow); obtain ⟨g, c4, rfl, hg, hc4, r4⟩ := AP.out w4 v4 hown; have G4 := Lib.hid hg; have C4 := Lib.hid hc4; have R4 := Lib.hid r4; clear hown hgrow hg hc4 r4)
    | (go_at_call 109; with_reducible refine (CB.out w4 B4.out).mono ?_; rintro e w5 ⟨g2, c5, rfl, hg2, hc5, r5, b5⟩; have D5 := Lib.hid (show Dv2 w w5 g g2 (l ++ [0]) m from ⟨R4.out.quiet b5, r5, (by have := R4.out.lt; omega), G4.out, (by have := B4.out.size; omega), B4.out.trans (b5.mono B4.out.size)⟩); have C5 := Lib.hid hc5; clear hg2 hc5 r5 b5)
    | (go_at_call 111; with_reducible refine (S1.out w5 g g2 c4 D5.out C4.out).mono ?_; rintro e w6 ⟨R0, k6, rfl, D6⟩)
    | (go_at_call 111; with_reducible refine (S2.out w6 g g2 c5 R0 D6.out.2.2 C5.out).mono ?_; rintro e w7 ⟨DD, k7, rfl, D7⟩)
    | (refine wpList_make_full _ rfl _ _ 29 rfl w7.heap.size 55 i0 (.int .u32 0) 1 Try.underlying29 hi hz0 hz1 .i64 .i64 _ _ M rfl rfl (by omega) (by omega) BB4 (by unfold maxLen; omega) (Nat.le_refl _) ?_; intro w8 hown hgrow; have J0 := Lib.hid (MQ.out w7 g g2 R0 DD w8 D7.out.2.2 D7.out.1 D6.out.1 D6.out.2.1 D7.out.2.1 hown hgrow); clear hown hgrow))
  obtain ⟨g3, hg3⟩ : ∃ g3, g3 = w7.heap.size := ⟨_, rfl⟩
  rw [← hg3] at J0 ⊢
  clear hg3
  have CC4 := C4.out
  have CC5 := C5.out
  go_loopw [11] (fun i wr => ∃ (k : Nat) (R Q : List Nat), k ≤ M ∧ i = .int .i64 ((k : Int) - 1) ∧ Hid (DvI w wr g g2 g3 l m DD t n (nb + 1) k R Q)) (fun i _ => (intOf i + 2).toNat)
  case atStart => exact ⟨M, R0, _, Nat.le_refl _, rfl, J0⟩
  case round =>
    obtain ⟨k, R, Q, hk, rfl, J⟩ := hrel
    by_cases hk0 : k = 0
    · subst hk0
      have lr := J.out.lr
      have lq : Q.length = M := by have := J.out.lq; have := HMN.out; omega
      have SHR := Lib.hid (shrink_any g (n + 1) c4 t R wr J.out.mem.two.r1 lr.symm (by omega) CC4 tp tB)
      have DE : Hid (∀ (r : List Nat) (rem : Nat), Nt.val R = t * Nt.val r + rem → rem < t → Nt.val l / Nt.val m = Nt.val Q ∧ Nt.val l % Nt.val m = Nt.val r) := by
        intro r rem e1 e2
        have e3 := J.out.eq
        have e4 := J.out.lt
        rw [List.drop_zero, D7.out.2.1, Nat.mul_comm t] at e4
        rw [D7.out.2.1, Nat.mul_comm t] at e3
        exact Nt.div_end tp e3 e4 e1 e2
      have T1 : Hid (∀ w9 r, Rw w9 g r → Sv g wr w9 → Dv3 w w9 g g2 g3 r DD Q) := fun w9 r h s => J.out.mem.on1 h s
      have T2 : Hid (∀ w9 r, Dv3 w w9 g g2 g3 r DD Q → Calls Try.prog 65 #[.slice (some ⟨g3, 0, none⟩) M M] w9 fun e w' => ∃ k, e = .returned (.slice (some ⟨g3, 0, none⟩) k M) ∧ Hid (Lm w' (.slice (some ⟨g3, 0, none⟩) k M) (Nt.dig (Nt.val Q)) ∧ Dv3 w w' g g2 g3 r DD Q)) := by
        intro w9 r h
        have L9 := h.r3.lm (c := M) (by omega)
        rw [lq] at L9
        refine (trimmed_any _ Q w9 L9 (by omega)).mono ?_
        rintro e w' ⟨a, k, c, e1, rfl, hk, ht, hq⟩
        obtain ⟨rfl, -, rfl⟩ := Value.slice.inj e1
        rw [lq] at hk
        refine ⟨k, rfl, (?_ : _ ∧ _)⟩
        rw [← ht]
        exact ⟨(L9.take k hk).below hq.bl, h.quiet hq.bl⟩
      have T3 : Hid (∀ w9 r, r.length = n + 1 → Dv3 w w9 g g2 g3 r DD Q → Calls Try.prog 65 #[.slice (some ⟨g, 0, none⟩) (n + 1) c4] w9 fun e w' => ∃ k, e = .returned (.slice (some ⟨g, 0, none⟩) k c4) ∧ Hid (Lm w' (.slice (some ⟨g, 0, none⟩) k c4) (Nt.dig (Nt.val r)) ∧ Qt w9 w')) := by
        intro w9 r rl h
        have L9 := h.two.r1.lm (c := c4) (by omega)
        rw [rl] at L9
        refine (trimmed_any _ r w9 L9 (by omega)).mono ?_
        rintro e w' ⟨a, k, c, e1, rfl, hk, ht, hq⟩
        obtain ⟨rfl, -, rfl⟩ := Value.slice.inj e1
        rw [rl] at hk
        refine ⟨k, rfl, (?_ : _ ∧ _)⟩
        rw [← ht]
        exact ⟨(L9.take k hk).below hq.bl, hq⟩
      clear lr lq
      go_wp2_with (first
        | (go_at_call 113; with_reducible refine SHR.out.mono ?_; rintro e w9 ⟨r, rem, rfl, rl, -, re, rt, rr, rs⟩; have RL := Lib.hid rl; have E9 := Lib.hid (DE.out r rem re rt); have M9 := Lib.hid (T1.out w9 r rr rs); clear rl re rt rr rs)
        | (go_at_call 65; with_reducible refine (T2.out w9 r M9.out).mono ?_; rintro e w10 ⟨k10, rfl, L10⟩)
        | (go_at_call 65; with_reducible refine (T3.out w10 r RL.out L10.out.2).mono ?_; rintro e w11 ⟨k11, rfl, L11⟩))
      go_ret3
      rw [E9.out.1, E9.out.2]
      have b10 := L10.out.2.two.bel
      exact ⟨_, _, _, _, _, _, rfl, L10.out.1.below L11.out.2.bl, L11.out.1, b10.trans (L11.out.2.bl.mono b10.size)⟩
    · obtain ⟨j, rfl⟩ : ∃ j, k = j + 1 := ⟨k - 1, by omega⟩
      have ej : ((j + 1 : Nat) : Int) - 1 = (j : Int) := by omega
      have JB : j + nb + 1 + 1 ≤ n + 1 := by have := HMN.out; omega
      have RD : Hid (Calls Try.prog 112 #[.slice (some ⟨g, j, none⟩) (j + (nb + 1) + 1 - j) (c4 - j), .slice (some ⟨g2, 0, none⟩) (nb + 1) c5] wr fun e w' => ∃ (q : Nat) (R' : List Nat), e = .returned (.int .u32 (q : Nat)) ∧ Hid (w'.cell? ⟨g3, j, none⟩ = some (.int .u32 0) ∧ w'.frozen? ⟨g3, j, none⟩ = false) ∧ Hid (DvI w (w'.setCell ⟨g3, j, none⟩ (.int .u32 (q : Nat))) g g2 g3 l m DD t n (nb + 1) j R' (Q.set j q))) := by
        show Calls _ _ _ _ _
        have lr := J.out.lr
        have lq : Q.length = M := by have := J.out.lq; have := HMN.out; omega
        obtain ⟨d1, d2⟩ := DB.out DD D7.out.2.1 D7.out.1 J.out.mem.two.r2.fit
        obtain ⟨-, a1, -⟩ := Nt.div_before J.out.mem.two.r1.fit (i := j) (n := nb + 1) (by omega) d1 J.out.lt
        have LX := J.out.mem.two.r2.lx (c := c5) (k := g) (by rw [D7.out.1]; exact CC5) J.out.mem.two.ne
        rw [D7.out.1] at LX
        rw [show j + (nb + 1) + 1 - j = nb + 1 + 1 by omega]
        refine (reduce_any g j nb (c4 - j) c5 R DD _ wr J.out.mem.two.r1 (by omega) (by omega) (by omega) LX D7.out.1.symm d2 a1).mono ?_
        rintro e w' ⟨q, d, rfl, qB, ld, -, he, hd, rr, rs⟩
        have m3 := J.out.mem.on1 rr rs
        refine ⟨q, _, rfl, (⟨?_, m3.r3.free j⟩ : _ ∧ _), J.out.next (by omega) d1 qB ld he hd rr rs⟩
        have := m3.r3.cell (j := j) (by omega)
        rw [J.out.zero j (by omega)] at this
        exact this
      rw [ej]
      go_wp2_with (go_at_call 112; with_reducible refine RD.out.mono ?_; rintro e w9 ⟨q, R', rfl, F9, J9⟩; obtain ⟨f9, g9⟩ := F9.out)
      go_roundw
      case rel => exact ⟨j, R', _, by omega, rfl, J9⟩
      case measure => simp [intOf]; omega
end Go.Proofs.Ytjfopggpohakkaa
