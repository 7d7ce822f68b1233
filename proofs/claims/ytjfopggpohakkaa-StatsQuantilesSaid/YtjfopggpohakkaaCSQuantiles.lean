/- StatsQuantiles: the reference's Quantile (the least of the numbers that qualify), and the walk. -/
import Derived.Test.YtjfopggpohakkaaLe
import Derived.Test.YtjfopggpohakkaaSF
namespace Go.Proofs.Ytjfopggpohakkaa
open Go.RowKit

namespace Rk
/-- A number qualifies. -/
def Qf (zs : List Int) (m : Nat) (x : Int) : Prop := m ≤ le x zs * 10000
theorem le_step (x : Int) (zs : List Int) {j : Nat} (h : j < zs.length) : le x (zs.take (j + 1)) = le x (zs.take j) + if zs.getD j 0 ≤ x then 1 else 0 := by
  rw [List.take_succ_eq_append_getElem h, le_app, List.getD_eq_getElem?_getD, List.getElem?_eq_getElem h]
  unfold le
  rw [List.countP_singleton]
  simp
/-- The best of those that were looked at. -/
def Bst (zs : List Int) (m k : Nat) (b : Int) (s : Bool) : Prop := (s = false ∧ ∀ x ∈ zs.take k, ¬ Qf zs m x) ∨ (s = true ∧ b ∈ zs ∧ Qf zs m b ∧ ∀ x ∈ zs.take k, Qf zs m x → b ≤ x)
theorem mem_step {zs : List Int} {k : Nat} (h : k < zs.length) {y : Int} (hy : y ∈ zs.take (k + 1)) : y ∈ zs.take k ∨ y = zs.getD k 0 := by
  rw [List.take_succ_eq_append_getElem h, List.mem_append, List.mem_singleton] at hy
  rw [List.getD_eq_getElem?_getD, List.getElem?_eq_getElem h]
  exact hy
theorem bst_skip {zs : List Int} {m k : Nat} {b : Int} {s : Bool} (h : k < zs.length) (B : Bst zs m k b s) (hx : ¬ Qf zs m (zs.getD k 0)) : Bst zs m (k + 1) b s := by
  rcases B with ⟨e, B⟩ | ⟨e, b1, b2, B⟩
  · exact .inl ⟨e, fun y hy => (mem_step h hy).elim (fun hy => B y hy) (fun e => e ▸ hx)⟩
  · exact .inr ⟨e, b1, b2, fun y hy hq => (mem_step h hy).elim (fun hy => B y hy hq) (fun e => absurd hq (e ▸ hx))⟩
theorem bst_keep {zs : List Int} {m k : Nat} {b : Int} (h : k < zs.length) (B : Bst zs m k b true) (hx : b ≤ zs.getD k 0) : Bst zs m (k + 1) b true := by
  rcases B with ⟨e, _⟩ | ⟨e, b1, b2, B⟩
  · cases e
  · exact .inr ⟨e, b1, b2, fun y hy hq => (mem_step h hy).elim (fun hy => B y hy hq) (fun e => e ▸ hx)⟩
theorem bst_take {zs : List Int} {m k : Nat} {b : Int} {s : Bool} (h : k < zs.length) (B : Bst zs m k b s) (hq : Qf zs m (zs.getD k 0)) (hx : s = true → zs.getD k 0 < b) : Bst zs m (k + 1) (zs.getD k 0) true := by
  have hm : zs.getD k 0 ∈ zs := by rw [List.getD_eq_getElem?_getD, List.getElem?_eq_getElem h]; exact List.getElem_mem h
  refine .inr ⟨rfl, hm, hq, fun y hy hy2 => ?_⟩
  rcases mem_step h hy with hy | rfl
  · rcases B with ⟨_, B⟩ | ⟨e, _, _, B⟩
    · exact absurd hy2 (B y hy)
    · have := B y hy hy2
      have := hx e
      omega
  · exact Int.le_refl _
theorem le_pos {b : Int} {zs : List Int} (h : b ∈ zs) : 0 < le b zs := List.countP_pos_iff.2 ⟨b, h, by simp⟩
end Rk
theorem bst_is {zs : List Int} {q m : Nat} {b : Int} {s : Bool} (h0 : 0 < zs.length) (h1 : zs.length ≤ 10000) (hq : q ≤ 10000) (hm : m = q * zs.length) (B : Rk.Bst zs m zs.length b s) : qV zs q = b := by
  obtain ⟨_, a1, a2, a3⟩ := q_counts h0 h1 hq
  obtain ⟨c1, _⟩ := Rk.wt_counts (Nat.zero_le _ : 0 ≤ Rk.wt zs.length q - 1) a2
  have Q : Rk.Qf zs m (qV zs q) := by unfold Rk.Qf; rw [hm]; exact c1
  rcases B with ⟨_, B⟩ | ⟨_, b1, b2, B⟩
  · rw [List.take_length] at B
    exact absurd Q (B _ a3)
  · rw [List.take_length] at B
    have le1 := B _ a3 Q
    refine Int.le_antisymm (Int.le_of_not_gt fun hlt => ?_) le1
    have h2 := Rk.le_mono zs hlt
    have h3 := Rk.le_pos b1
    have h4 := (Rk.wt_counts a1 a2).2 (by omega)
    unfold Rk.Qf at b2
    omega

set_option maxRecDepth 100000 in
set_option maxHeartbeats 3200000 in
theorem rquantile_any (v : Value) (zs : List Int) (q : Int) (w : World) (h : Sl w v zs) :
    Calls Try.prog 48 #[v, .int .i64 q] w fun e w' => e = .returned (.tuple #[.int .i64 (qV zs q), .int .i64 (qE zs.length q)]) ∧ Qt w w' := by
  obtain ⟨a, c, rfl, h⟩ := h
  obtain ⟨n, hn⟩ : ∃ n, n = zs.length := ⟨_, rfl⟩
  have HN := Lib.hid hn
  rw [← hn] at h ⊢
  have H := Lib.hid h
  clear h
  by_cases h1 : 10000 < n
  · have E : Hid (qE n q = 5) := by show _ = _; unfold qE; rw [if_pos h1]
    have V : Hid (qV zs q = 0) := by show _ = _; unfold qV; rw [← hn, E.out]; rfl
    have g1 : (10000 : Int) < (n : Int) := by omega
    rw [E.out, V.out]
    clear hn
    go_enter Try.func48, Try.ntmps48
    go_wp2
    go_ret2
    exact ⟨rfl, Qt.refl _⟩
  · have g1 : (n : Int) ≤ (10000 : Int) := by omega
    by_cases hb : 0 ≤ q ∧ q ≤ 10000
    · obtain ⟨q0, q1⟩ := hb
      obtain ⟨q, rfl⟩ : ∃ p : Nat, q = (p : Int) := ⟨q.toNat, by omega⟩
      have hq : q ≤ 10000 := by omega
      have hb := sh_yes hq
      by_cases h2 : n = 0
      · have E : Hid (qE n q = 6) := by show _ = _; unfold qE; rw [if_neg h1, if_neg (by rw [hb]; simp), if_pos h2]
        have V : Hid (qV zs q = 0) := by show _ = _; unfold qV; rw [← hn, E.out]; rfl
        rw [E.out, V.out]
        subst h2
        clear hn hb h1
        go_enter Try.func48, Try.ntmps48
        go_wp2
        go_ret2
        exact ⟨rfl, Qt.refl _⟩
      · have E : Hid (qE n q = 0) := by show _ = _; unfold qE; rw [if_neg h1, if_neg (by rw [hb]; simp), if_neg h2]
        rw [E.out]
        obtain ⟨m, hm⟩ : ∃ m, m = q * n := ⟨_, rfl⟩
        have m1 : m ≤ 100000000 := by rw [hm]; exact Nat.le_trans (Nat.mul_le_mul hq (show n ≤ 10000 by omega)) (by decide)
        have e1 : (q : Int) * (n : Int) = (m : Int) := by rw [hm]; exact (Int.natCast_mul q n).symm
        have FIN : Hid (∀ b s, Rk.Bst zs m n b s → qV zs q = b) := fun b s B => bst_is (m := m) (s := s) (by omega) (by omega) hq (by rw [hm, hn]) (by rw [← hn]; exact B)
        have r1 : wrap64 (m : Int) = (m : Int) := by rw [← IntWalk.i64_left]; exact IntWalk.i64_in _ (by omega)
        have n0 : ((n : Int) == 0) = false := by rw [beq_eq_false_iff_ne]; omega
        have n1 : n ≤ 10000 := by omega
        rcases H.out with hz | ⟨b, off, rfl, hc⟩
        · exfalso; rw [hz] at hn; simp at hn; omega
        have HC := Lib.hid hc
        clear hn hb h1 h2 hm hc H
        go_enter Try.func48, Try.ntmps48
        go_wp2
        go_loopw [6, 7, 8] (fun best some i wr => ∃ (k : Nat) (x : Int) (s : Bool), k ≤ n ∧ i = .int .i64 k ∧ best = .int .i64 x ∧ some = .bool s ∧ Hid (Rk.Bst zs m k x s) ∧ Hid (Qt w wr)) (fun _ _ i _ => n + 1 - (intOf i).toNat)
        case atStart => exact ⟨0, 0, false, Nat.zero_le _, rfl, rfl, rfl, (show Rk.Bst _ _ _ _ _ from .inl ⟨rfl, fun x hx => by simp at hx⟩), (show Qt _ _ from Qt.refl _)⟩
        case round =>
          obtain ⟨k, y, s, hk, rfl, rfl, rfl, BS, QA⟩ := hrel
          obtain ⟨wa, rfl⟩ : ∃ x, x = wr := ⟨_, rfl⟩
          by_cases hlt : k < n
          · have hx0 := HC.out k hlt
            have SK := Lib.hid (fun hx => Rk.bst_skip (by rw [← HN.out]; exact hlt) BS.out hx)
            have TK := Lib.hid (fun hq hx => Rk.bst_take (by rw [← HN.out]; exact hlt) BS.out hq hx)
            have KP := Lib.hid (fun (e : s = true) hx => Rk.bst_keep (by rw [← HN.out]; exact hlt) (e ▸ BS.out) hx)
            obtain ⟨x, hx⟩ : ∃ x, x = zs.getD k 0 := ⟨_, rfl⟩
            rw [← hx] at hx0 SK TK KP
            have HX := Lib.hid hx0
            clear hx hx0
            go_wp2
            go_loopw [9, 10] (fun t j wr => ∃ (i : Nat), i ≤ n ∧ j = .int .i64 i ∧ t = .int .i64 (Rk.le x (zs.take i) : Nat) ∧ Hid (Qt w wr)) (fun _ j _ => n + 1 - (intOf j).toNat)
            case atStart => exact ⟨0, Nat.zero_le _, rfl, rfl, QA⟩
            case round =>
              obtain ⟨i, hi, rfl, rfl, QB⟩ := hrel
              have L1 := Rk.le_len x (zs.take i)
              have L2 : (zs.take i).length = i := by rw [List.length_take]; have := HN.out; omega
              by_cases hlti : i < n
              · have hy0 := QB.out.cell (HC.out i hlti)
                have hx1 := QB.out.cell HX.out
                have ST := Lib.hid (Rk.le_step x zs (show i < zs.length by rw [← HN.out]; exact hlti))
                obtain ⟨z, hz⟩ : ∃ z, z = zs.getD i 0 := ⟨_, rfl⟩
                rw [← hz] at hy0 ST
                clear hz
                obtain ⟨t, ht⟩ : ∃ t, t = Rk.le x (zs.take i) := ⟨_, rfl⟩
                rw [← ht] at L1 ST ⊢
                have t1 : t ≤ 10000 := by omega
                clear ht L2 L1
                by_cases hle : z ≤ x
                · rw [if_pos hle] at ST
                  go_wp2
                  go_region
                  go_wp2
                  go_roundw
                  case rel => exact ⟨i + 1, by omega, by go_num, by rw [ST.out]; go_num, QB.out.trans ⟨1, rfl⟩⟩
                  case measure => simp [intOf]; omega
                · rw [if_neg hle] at ST
                  go_wp2
                  go_region
                  go_wp2
                  go_roundw
                  case rel => exact ⟨i + 1, by omega, by go_num, by rw [ST.out]; rfl, QB.out.trans ⟨1, rfl⟩⟩
                  case measure => simp [intOf]; omega
              · obtain rfl : i = n := by omega
                have hx1 := QB.out.cell HX.out
                have TL : zs.take i = zs := List.take_of_length_le (by rw [← HN.out]; omega)
                rw [TL] at L1 ⊢
                have QD : Rk.Qf zs m x ↔ m ≤ Rk.le x zs * 10000 := Iff.rfl
                obtain ⟨t, ht⟩ : ∃ t, t = Rk.le x zs := ⟨_, rfl⟩
                rw [← ht] at L1 QD ⊢
                have t1 : t ≤ 10000 := by have := HN.out; omega
                have QD := Lib.hid QD
                clear ht L2 L1 TL
                by_cases hQ : m ≤ t * 10000
                · have d1 : (m : Int) ≤ (t : Int) * 10000 := by omega
                  have QY := Lib.hid (QD.out.2 hQ)
                  cases s with
                  | false =>
                    go_wp2
                    go_roundw
                    case rel => exact ⟨k + 1, x, true, by omega, by go_num, rfl, rfl, TK.out QY.out (fun e => by cases e), QB⟩
                    case measure => simp [intOf]; omega
                  | true =>
                    by_cases hlt2 : x < y
                    · go_wp2
                      go_roundw
                      case rel => exact ⟨k + 1, x, true, by omega, by go_num, rfl, rfl, TK.out QY.out (fun _ => hlt2), QB⟩
                      case measure => simp [intOf]; omega
                    · go_wp2
                      go_roundw
                      case rel => exact ⟨k + 1, y, true, by omega, by go_num, rfl, rfl, KP.out rfl (by omega), QB⟩
                      case measure => simp [intOf]; omega
                · have d1 : (t : Int) * 10000 < (m : Int) := by omega
                  have QY := Lib.hid (fun e => hQ (QD.out.1 e))
                  go_wp2
                  go_roundw
                  case rel => exact ⟨k + 1, y, s, by omega, by go_num, rfl, rfl, SK.out QY.out, QB⟩
                  case measure => simp [intOf]; omega
          · obtain rfl : k = n := by omega
            have F := Lib.hid (FIN.out _ _ BS.out)
            go_wp2
            go_ret2
            exact ⟨ret_ii F.out.symm rfl, QA.out⟩
    · have hs : shB q = false := by unfold shB; exact decide_eq_false hb
      have E : Hid (qE n q = 2) := by show _ = _; unfold qE; rw [if_neg h1, if_pos hs]
      have V : Hid (qV zs q = 0) := by show _ = _; unfold qV; rw [← hn, E.out]; rfl
      rw [E.out, V.out]
      clear hn hs
      by_cases hq0 : q < 0
      · go_enter Try.func48, Try.ntmps48
        go_wp2
        go_ret2
        exact ⟨rfl, Qt.refl _⟩
      · have hq1 : 10000 < q := by omega
        go_enter Try.func48, Try.ntmps48
        go_wp2
        go_ret2
        exact ⟨rfl, Qt.refl _⟩

set_option maxRecDepth 100000 in
set_option maxHeartbeats 1600000 in
theorem statsQuantiles_any (a : Option Addr) (n c : Nat) (zs : List Int) (q : Int) (w : World) (hs : Sl w (.slice a n c) zs) (hnone : a = none → c = 0) (hlen : n ≤ 17592186044416) :
    Calls Try.prog 17 #[.slice a n c, .int .i64 q] w fun e w' => e = .returned (.bool true) ∧ Below w.heap.size w w' := by
  by_cases hm : 300 < n ∧ n ≤ 10000
  · obtain ⟨g1, g2⟩ := hm
    have g3 : (300 : Int) < (n : Int) := by omega
    have g4 : (n : Int) ≤ 10000 := by omega
    clear hs hnone hlen
    go_enter Try.func17, Try.ntmps17
    go_wp2
    go_ret
    exact ⟨rfl, Below.refl _ _⟩
  · have HS := Lib.hid hs
    obtain ⟨a', c', e, h⟩ := hs
    obtain ⟨rfl, hn, rfl⟩ := Value.slice.inj e
    have LE := Lib.hid (lent_any a n c zs w hn h hnone hlen)
    have HC := Lib.hid h
    have QU := Lib.hid (fun v w' (h : Sl w' v zs) => quantile_any v zs q w' h)
    have QR := Lib.hid (fun v w' (h : Sl w' v zs) => rquantile_any v zs q w' h)
    have KE := Lib.hid (fun g w' (L : Lent w' g n zs) (b : Below w.heap.size w w') => kept_any a g n c zs w' L (carry h b) hlen)
    obtain ⟨x, hx⟩ : ∃ x, x = qV zs q := ⟨_, rfl⟩
    obtain ⟨y, hy⟩ : ∃ y, y = qE zs.length q := ⟨_, rfl⟩
    rw [← hx, ← hy] at QU QR
    clear e h hn hx hy hnone
    have fin : ∀ (w1 w2 w3 w4 : World), Below w.heap.size w w1 → Below w1.heap.size w1 w2 → Qt w2 w3 → Qt w3 w4 → Below w.heap.size w w4 := fun w1 w2 w3 w4 b1 b2 q3 q4 => by
      have b12 := b1.trans (b2.mono b1.size)
      have b13 := b12.trans (q3.bl.mono b12.size)
      exact b13.trans (q4.bl.mono b13.size)
    have FIN := Lib.hid fin
    clear fin
    by_cases h1 : n ≤ 300
    · have g3 : (n : Int) ≤ (300 : Int) := by omega
      clear hm
      go_enter Try.func17, Try.ntmps17
      go_wp2_with (first
        | (go_at_call 47; with_reducible refine LE.out.mono ?_; rintro e w1 ⟨g, rfl, L1, b1, hg⟩; have B1 := Lib.hid b1; have LL := Lib.hid L1; clear b1 L1 hg)
        | (go_at_call 37; with_reducible refine (QU.out _ _ LL.out.sl).mono ?_; rintro e w2 ⟨rfl, b2⟩; have B2 := Lib.hid b2; clear b2)
        | (go_at_call 48; with_reducible refine (QR.out _ _ (HS.out.below (B1.out.trans (B2.out.mono B1.out.size)))).mono ?_; rintro e w3 ⟨rfl, q3⟩; have Q3 := Lib.hid q3; clear q3)
        | (go_at_call 49; with_reducible refine (KE.out _ _ ((LL.out.below B2.out).below Q3.out.bl) (FIN.out _ _ _ _ B1.out B2.out Q3.out (Qt.refl _))).mono ?_; rintro e w4 ⟨rfl, q4⟩; have Q4 := Lib.hid q4; clear q4))
      go_ret
      exact ⟨ret_bool (by first | rfl | (simp; done)), FIN.out _ _ _ _ B1.out B2.out Q3.out Q4.out⟩
    · have g3 : (10000 : Int) < (n : Int) := by omega
      have g4 : (300 : Int) < (n : Int) := by omega
      clear hm
      go_enter Try.func17, Try.ntmps17
      go_wp2_with (first
        | (go_at_call 47; with_reducible refine LE.out.mono ?_; rintro e w1 ⟨g, rfl, L1, b1, hg⟩; have B1 := Lib.hid b1; have LL := Lib.hid L1; clear b1 L1 hg)
        | (go_at_call 37; with_reducible refine (QU.out _ _ LL.out.sl).mono ?_; rintro e w2 ⟨rfl, b2⟩; have B2 := Lib.hid b2; clear b2)
        | (go_at_call 48; with_reducible refine (QR.out _ _ (HS.out.below (B1.out.trans (B2.out.mono B1.out.size)))).mono ?_; rintro e w3 ⟨rfl, q3⟩; have Q3 := Lib.hid q3; clear q3)
        | (go_at_call 49; with_reducible refine (KE.out _ _ ((LL.out.below B2.out).below Q3.out.bl) (FIN.out _ _ _ _ B1.out B2.out Q3.out (Qt.refl _))).mono ?_; rintro e w4 ⟨rfl, q4⟩; have Q4 := Lib.hid q4; clear q4))
      go_ret
      exact ⟨ret_bool (by first | rfl | (simp; done)), FIN.out _ _ _ _ B1.out B2.out Q3.out Q4.out⟩
set_option maxHeartbeats 800000 in
theorem walk_statsQuantiles (w : World) (a : Option Addr) (len cap : Nat) (zs : List Int) (h : IsRow .i64 w a len cap zs) (hlen : len ≤ 17592186044416) (q : Int) (_s1 : -9223372036854775808 ≤ q) (_s2 : q ≤ 9223372036854775807) :
    Calls Try.prog 5 #[.slice a len cap, .int .i64 q] w fun e w' => e = .returned (.bool true) ∧ Below w.heap.size w w' := by
  obtain ⟨l, hs, _, _, hnone, _⟩ := sl_of h
  have AW := Lib.hid (awake4_any w)
  have ST := Lib.hid (fun w' (b : Below w.heap.size w w') => statsQuantiles_any a len cap l q w' (hs.below b) hnone hlen)
  clear hs hnone h
  go_enter Try.func5, Try.ntmps5
  go_wp2_with (first
    | (go_at_call 14; with_reducible refine AW.out.mono ?_; rintro e w1 ⟨rfl, b1⟩; have B1 := Lib.hid b1; clear b1)
    | (go_at_call 17; with_reducible refine (ST.out _ B1.out).mono ?_; rintro e w2 ⟨rfl, b2⟩; have B2 := Lib.hid b2; clear b2))
  go_ret
  exact ⟨rfl, B1.out.trans (B2.out.mono B1.out.size)⟩
end Go.Proofs.Ytjfopggpohakkaa
