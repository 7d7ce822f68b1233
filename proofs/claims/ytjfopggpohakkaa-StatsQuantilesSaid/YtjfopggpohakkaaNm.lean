/- Contract of reduce. -/
import Derived.Test.YtjfopggpohakkaaNl
import Derived.Test.YtjfopggpohakkaaDv
namespace Go.Proofs.Ytjfopggpohakkaa
open Go.RowKit

theorem Rw.part_lm {w : World} {g off n c : Nat} {L : List Nat} (h : Rw w g L) (ho : off + n ≤ L.length) (hc : n ≤ c) : Lm w (.slice (some ⟨g, off, none⟩) n c) (Nt.part L off n) := by
  have e : (Nt.part L off n).length = n := Nt.part_len ho
  refine ⟨some ⟨g, off, none⟩, c, by rw [e], Nt.fit_part h.fit off n, (fun e => by cases e), by rw [e]; exact hc, Or.inr ⟨g, off, rfl, fun j hj => ?_⟩⟩
  rw [e] at hj
  rw [h.cell (by omega), Nt.part_getD L off n j hj]
theorem splice_splice {L d r : List Nat} {off : Nat} (ho : off + d.length ≤ L.length) (e : r.length = d.length) : Go.splice (Go.splice L off d) off r = Go.splice L off r := by
  have h1 := Nt.take_splice (L := L) (c := d) (o := off) (by omega)
  have h2 := Nt.drop_splice (L := L) (c := d) (o := off) ho
  unfold Go.splice at *
  rw [h1, e, h2]
/-- The state of reduce's loop. -/
structure ReI (g off n D A : Nat) (L : List Nat) (w0 wr : World) (lk q : Nat) (d : List Nat) : Prop where
  len : d.length = n
  fit : Nt.Fit d
  eq : Nt.val d + q * D = A + Nt.B ^ n * lk
  up : A < (q + 1) * D
  lkB : lk < Nt.B
  row : Rw wr g (Go.splice L off d)
  sv : Sv g w0 wr
theorem re_arith {b n D A v q lk k r : Nat} (hv : v < b ^ n) (hD : D < b ^ n) (e : v + q * D = A + b ^ n * lk) (hlk : 0 < lk) (hr : r + b ^ n * k = v + 1 * D) :
    k ≤ 1 ∧ 0 < q ∧ A < q * D ∧ r + (q - 1) * D = A + b ^ n * (lk - k) := by
  have m1 := Nat.mul_le_mul_left (b ^ n) (show 1 ≤ lk from hlk)
  have hk : k ≤ 1 := by
    refine Nat.le_of_not_lt fun c => ?_
    have := Nat.mul_le_mul_left (b ^ n) (show 2 ≤ k from c)
    omega
  have hA : A < q * D := by omega
  have hq : 0 < q := by
    refine Nat.pos_of_ne_zero fun c => ?_
    subst c; rw [Nat.zero_mul] at hA; omega
  refine ⟨hk, hq, hA, ?_⟩
  obtain ⟨p, rfl⟩ : ∃ p, q = p + 1 := ⟨q - 1, by omega⟩
  obtain ⟨y, rfl⟩ : ∃ y, lk = y + k := ⟨lk - k, by omega⟩
  rw [Nat.add_sub_cancel, Nat.add_sub_cancel]
  rw [Nat.add_mul, Nat.one_mul, Nat.mul_add] at e
  omega
/-- The first estimate. -/
theorem est_start {u d : List Nat} {n e q0 : Nat} (hu : Nt.Fit u) (lu : u.length = n + 1 + 1) (ld : d.length = n + 1) (h0 : 0 < d.getD n 0) (hlt : Nt.val u < Nt.B * Nt.val d)
    (he : e = (u.getD (n + 1) 0 * Nt.B + u.getD n 0) / d.getD n 0) (hq : q0 = min e 4294967295) : Nt.val u < (q0 + 1) * Nt.val d := by
  have dp : 0 < Nt.val d := by
    refine Nat.pos_of_ne_zero fun c => ?_
    rw [c, Nat.mul_zero] at hlt
    exact absurd hlt (Nat.not_lt_zero _)
  have hm : Nt.val u / Nt.val d * Nt.val d ≤ Nt.val u := Nat.div_mul_le_self _ _
  have h1 := Nt.est hu lu ld h0 hm
  have h2 := Nt.est_top hm hlt
  rw [← he] at h1
  rw [B_is] at h2
  have h4 := Nat.lt_mul_div_succ (Nt.val u) dp
  clear hlt hm he
  have h3 : Nt.val u / Nt.val d ≤ q0 := by rw [hq]; omega
  have h5 := Nat.mul_le_mul_right (Nt.val d) (show Nt.val u / Nt.val d + 1 ≤ q0 + 1 by omega)
  rw [Nat.mul_comm] at h4
  exact Nat.lt_of_lt_of_le h4 h5
set_option maxRecDepth 100000 in
set_option maxHeartbeats 3200000 in
theorem reduce_any (g off n c c' : Nat) (L m : List Nat) (a' : Option Addr) (w : World) (hr : Rw w g L) (ho : off + (n + 1 + 1) ≤ L.length) (hl : n ≤ 100000) (hc : n + 1 + 1 ≤ c) (hm : Lx g w (.slice a' (n + 1) c') m) (hn : n + 1 = m.length) (h0 : 0 < m.getD n 0)
    (hA : Nt.val (Nt.part L off (n + 1 + 1)) < Nt.B * Nt.val m) :
    Calls Try.prog 112 #[.slice (some ⟨g, off, none⟩) (n + 1 + 1) c, .slice a' (n + 1) c'] w fun e w' => ∃ q d, e = .returned (.int .u32 (q : Nat)) ∧ q < Nt.B ∧ d.length = n + 1 + 1 ∧ Nt.Fit d ∧ Nt.val d + q * Nt.val m = Nt.val (Nt.part L off (n + 1 + 1)) ∧ Nt.val d < Nt.val m ∧ Rw w' g (Go.splice L off d) ∧ Sv g w w' := by
  obtain ⟨u, hu⟩ : ∃ u, u = Nt.part L off (n + 1 + 1) := ⟨_, rfl⟩
  have lu : u.length = n + 1 + 1 := by rw [hu]; exact Nt.part_len ho
  have fu : Nt.Fit u := by rw [hu]; exact Nt.fit_part hr.fit _ _
  have LA := hr.part_lm (n := n + 1 + 1) (c := c) ho hc
  rw [← hu] at LA hA ⊢
  have LB := hm.lm
  have A1 : Hid (Calls Try.prog 83 #[.slice (some ⟨g, off, none⟩) (n + 1 + 1) c, .int .i64 ((n : Int) + 1)] w fun e w' => e = .returned (.int .u64 (u.getD (n + 1) 0 : Nat)) ∧ w = w') := at_any _ u (n + 1) w LA
  have A2 := Lib.hid (at_any _ u n w LA)
  have A3 := Lib.hid (at_any _ m n w LB)
  obtain ⟨x, hx⟩ : ∃ x, x = u.getD (n + 1) 0 := ⟨_, rfl⟩
  obtain ⟨y, hy⟩ : ∃ y, y = u.getD n 0 := ⟨_, rfl⟩
  obtain ⟨v1, hv1⟩ : ∃ v1, v1 = m.getD n 0 := ⟨_, rfl⟩
  have x0 := Nt.getD_lt fu (n + 1)
  have y0 := Nt.getD_lt fu n
  have z0 := Nt.getD_lt LB.fit n
  obtain ⟨U, hU⟩ : ∃ U, U = x * 4294967296 + y := ⟨_, rfl⟩
  obtain ⟨e, he⟩ : ∃ e, e = U / v1 := ⟨_, rfl⟩
  obtain ⟨q0, hq0⟩ : ∃ q0, q0 = min e 4294967295 := ⟨_, rfl⟩
  have up := est_start fu lu hn.symm h0 hA (e := e) (q0 := q0) (by rw [he, hU, hx, hy, hv1, B_is]) hq0
  rw [← hx] at A1 x0
  rw [← hy] at A2 y0
  rw [← hv1] at A3 z0 h0
  rw [B_is] at x0 y0 z0
  have J := or_join x y U x0 y0 hU
  have D0 : ((v1 : Int) == 0) = false := by rw [beq_eq_false_iff_ne]; omega
  have D1 : v1 ≠ 0 := by omega
  have UB : U < 18446744073709551616 := by rw [hU]; omega
  have EB : e ≤ U := by rw [he]; exact Nat.div_le_self _ _
  have QE : IntKind.u64.wrap ((U : Int) / (v1 : Int)) = (e : Int) := by
    rw [← Int.natCast_ediv, ← he]; exact u64_in e (by omega)
  obtain ⟨TV, hTV⟩ : ∃ TV : Int, TV = (q0 : Nat) := ⟨_, rfl⟩
  have hcase : (e ≤ 4294967295 ∧ TV = (e : Int)) ∨ (4294967295 < e ∧ TV = 4294967295) := by
    by_cases c : e ≤ 4294967295
    · exact Or.inl ⟨c, by rw [hTV, hq0]; omega⟩
    · exact Or.inr ⟨by omega, by rw [hTV, hq0]; omega⟩
  have qB : q0 < Nt.B := by rw [B_is, hq0]; omega
  have DL : Nt.val m < Nt.B ^ (n + 1 + 1) := by
    have := Nt.val_lt LB.fit
    rw [← hn] at this
    have p := Nat.pow_le_pow_right Nt.B_pos (show n + 1 ≤ n + 1 + 1 by omega)
    omega
  have TK : Hid (Calls Try.prog 119 #[.slice (some ⟨g, off, none⟩) (n + 1 + 1) c, .slice a' (n + 1) c', .int .u32 TV] w fun e w' => ∃ d lk, e = .returned (.int .u32 (lk : Nat)) ∧ Hid (ReI g off (n + 1 + 1) (Nt.val m) (Nt.val u) L w w' lk q0 d)) := by
    show Calls _ _ _ _ _
    rw [hTV]
    refine (take_any g off (n + 1 + 1) c q0 L m _ w hr ho (by omega) hc hm qB).mono ?_
    rintro e w' ⟨r, k, rfl, kB, rl, rf, re, rr, rs⟩
    rw [List.take_of_length_le (by omega), ← hu] at re
    exact ⟨r, k, rfl, (⟨rl, rf, re, up, kB, rr, rs⟩ : ReI _ _ _ _ _ _ _ _ _ _ _)⟩
  have PT : Hid (∀ wr lk q d, ReI g off (n + 1 + 1) (Nt.val m) (Nt.val u) L w wr lk q d → 0 < lk → 0 < q ∧ Calls Try.prog 61 #[.slice (some ⟨g, off, none⟩) (n + 1 + 1) c, .slice a' (n + 1) c', .int .u32 1] wr fun e w' => ∃ r k, e = .returned (.int .u32 (k : Nat)) ∧ k ≤ 1 ∧ Hid (ReI g off (n + 1 + 1) (Nt.val m) (Nt.val u) L w w' (lk - k) (q - 1) r)) := by
    intro wr lk q d I hlk
    have hd := I.len
    have q1 : 0 < q := by
      have b := Nt.val_lt I.fit
      rw [hd] at b
      have := I.eq
      have m1 := Nat.mul_le_mul_left (Nt.B ^ (n + 1 + 1)) (show 1 ≤ lk from hlk)
      refine Nat.pos_of_ne_zero fun c => ?_
      rw [c, Nat.zero_mul] at this; omega
    refine ⟨q1, ?_⟩
    have P := put_any g off (n + 1 + 1) c 1 (Go.splice L off d) m (.slice a' (n + 1) c') wr I.row (by rw [length_splice _ _ _ (by omega)]; exact ho) (by omega) hc (hm.sv I.sv) (by decide)
    refine P.mono ?_
    rintro e w' ⟨r, k, rfl, kB, rl, rf, re, rr, rs⟩
    have pe : Nt.part (Go.splice L off d) off (n + 1 + 1) = d := by
      have := Nt.part_splice (L := L) (c := d) (o := off) (by omega)
      rw [hd] at this; exact this
    rw [List.take_of_length_le (by omega), pe] at re
    rw [splice_splice (by omega) (by omega)] at rr
    have b := Nt.val_lt I.fit
    rw [hd] at b
    obtain ⟨k1, q1, a1, e1⟩ := re_arith b DL I.eq hlk re
    refine ⟨r, k, rfl, k1, (⟨rl, rf, e1, ?_, by have := I.lkB; omega, rr, I.sv.trans rs⟩ : ReI _ _ _ _ _ _ _ _ _ _ _)⟩
    rw [show q - 1 + 1 = q by omega]; exact a1
  have QB : Hid (q0 < 4294967296) := qB
  have HTV := Lib.hid hTV
  clear hr ho hc hm hn hA LA LB hx hy hv1 hU he hq0 up z0 EB hTV qB DL hu lu fu h0
  rcases hcase with ⟨ce, rfl⟩ | ⟨ce, rfl⟩
  all_goals
    go_enter Try.func112, Try.ntmps112
    go_wp2_with (first
      | (go_at_call 83; with_reducible refine A1.out.mono ?_; rintro e w2 ⟨rfl, rfl⟩)
      | (go_at_call 83; with_reducible refine A2.out.mono ?_; rintro e w2 ⟨rfl, rfl⟩)
      | (go_at_call 83; with_reducible refine A3.out.mono ?_; rintro e w2 ⟨rfl, rfl⟩)
      | (go_at_call 119; with_reducible refine TK.out.mono ?_; rintro e w2 ⟨d, lk, rfl, J2⟩))
    go_loopw [6, 7] (fun qv sv wr => ∃ (q s : Nat) (d : List Nat), q < 4294967296 ∧ qv = .int .u32 (q : Nat) ∧ sv = .int .u32 (s : Nat) ∧ Hid (ReI g off (n + 1 + 1) (Nt.val m) (Nt.val u) L w wr s q d)) (fun qv _ _ => (intOf qv + 1).toNat)
    case atStart => exact ⟨q0, lk, d, QB.out, by rw [← HTV.out], rfl, J2⟩
    case round =>
      obtain ⟨q, s, d, hq, rfl, rfl, I⟩ := hrel
      have HQ := Lib.hid hq
      by_cases hs : s = 0
      · subst hs
        go_wp2
        go_ret
        have e1 := I.out.eq
        rw [Nat.mul_zero, Nat.add_zero] at e1
        have e2 := I.out.up
        rw [← e1, Nat.add_mul, Nat.one_mul] at e2
        exact ⟨q, d, rfl, HQ.out, I.out.len, I.out.fit, e1, by omega, I.out.row, I.out.sv⟩
      · obtain ⟨q1, PP⟩ := PT.out wr s q d I.out (by omega)
        have PC := Lib.hid PP
        have sb : s < 4294967296 := I.out.lkB
        clear PP
        obtain ⟨p, rfl⟩ : ∃ p, q = p + 1 := ⟨q - 1, by omega⟩
        go_wp2_with (go_at_call 61; with_reducible refine PC.out.mono ?_; rintro e w4 ⟨r, k, rfl, hk, J4⟩)
        go_roundw
        case rel => exact ⟨p, s - k, r, by omega, by go_num, by go_num, J4⟩
        case measure => simp [intOf]; omega
end Go.Proofs.Ytjfopggpohakkaa
