/- CivilAdds: its walk. -/
import Derived.Test.YtcnnfgigpjbcpaaDoorCAhead
namespace Go.Proofs.YtcnnfgigpjbcpaaDoor
open Go.RowKit
namespace Hol
theorem wb_free (a q : Int) (_h : 0 ≤ a) (_hq : 0 ≤ q) : wb [] (a + q * 7) - wb [] a = q * 5 := by
  show (a + q * 7) / 7 * 5 + min ((a + q * 7) % 7) 5 - ((0 : Nat) : Int) - (a / 7 * 5 + min (a % 7) 5 - ((0 : Nat) : Int)) = q * 5
  omega
theorem wb_app (l : List Int) (t d : Int) : wb (l ++ [t]) d = wb l d - if (decide (t < d) && wk t) = true then 1 else 0 := by
  have e : lost (l ++ [t]) d = lost l d + if (decide (t < d) && wk t) = true then 1 else 0 := by
    unfold lost; rw [List.countP_append]; simp [List.countP_cons, List.countP_nil]
  unfold wb
  rw [e]
  split <;> omega
theorem works_new (l : List Int) (t : Int) (h : inc (-1) (l ++ [t]) = true) : works l t = wk t := by
  have pw := inc_pw _ _ h
  have nc : l.contains t = false := by
    rw [← Bool.not_eq_true, List.contains_iff_mem]
    intro hm
    have := (List.pairwise_append.1 pw).2.2 t hm t (by simp)
    omega
  unfold works; rw [nc]; simp
end Hol
theorem getD_end (L : List Int) (y : Int) : (L ++ [y]).getD L.length 0 = y := by simp [List.getD_eq_getElem?_getD]
theorem lsn_app (us : List Int) (k : Nat) : lsn us (k + 1) = lsn us k ++ [(lsn us (k + 1)).getD k 0] := by
  have e := getD_end (lsn us k) ((lsn us k).getLastD (-1) + (1 + us.getD k 0 % 701))
  rw [lsn_len] at e
  have e' : (lsn us (k + 1)).getD k 0 = (lsn us k).getLastD (-1) + (1 + us.getD k 0 % 701) := e
  rw [e']; rfl
set_option maxRecDepth 100000 in
set_option maxHeartbeats 3200000 in
theorem adds_walk (us : List Int) (v : Value) (a b c : Int) (w : World) (G : Gl w) (hu : Su w v us) :
    Calls Tryd.prog 10 #[v, .int .i64 a, .int .i64 b, .int .i64 c] w fun e w' => e = .returned (.bool true) ∧ Below w.heap.size w w' := by
  have P := Lib.hid (fun w => day_pick a w)
  have Q := Lib.hid (fun w => day_pick b w)
  have R := Lib.hid (fun w => day_pick c w)
  have L := Lib.hid (fun w1 (S1 : St w w1) => list_any v us w w1 S1 (hu.below S1.bl))
  obtain ⟨x, hx⟩ : ∃ x, x = a % 730485 := ⟨_, rfl⟩
  obtain ⟨y, hy⟩ : ∃ x, x = b % 730485 := ⟨_, rfl⟩
  obtain ⟨z, hz⟩ : ∃ x, x = c % 730485 := ⟨_, rfl⟩
  have x0 : 0 ≤ x := by omega
  have x1 : x < 730485 := by omega
  have y0 : 0 ≤ y := by omega
  have y1 : y < 730485 := by omega
  have z0 : 0 ≤ z := by omega
  have z1 : z < 730485 := by omega
  rw [← hx] at P
  rw [← hy] at Q
  rw [← hz] at R
  obtain ⟨ao, cp, hv, hclr⟩ := hu
  obtain ⟨len, hlen⟩ : ∃ n, n = us.length := ⟨_, rfl⟩
  rw [← hlen] at hv
  subst hv
  clear hx hy hz hlen hclr
  go_enter Tryd.func10, Tryd.ntmps10
  go_wp2_with (first | (go_at_call 19; refine (awake_any w _ (St.refl G)).mono ?_; rintro e w1 ⟨rfl, S1⟩) | (go_at_call 32; fail))
  refine (L.out _ S1).mono ?_
  rintro e w2 ⟨ai, cp2, K, hK, rfl, sl, S2, hcap⟩
  have hr := lsn_right us K hK
  have T0 : St w2 w2 := St.refl S2.gl
  have HS := Lib.hid sl
  obtain ⟨l, hl⟩ : ∃ l, l = lsn us K := ⟨_, rfl⟩
  have HL := Lib.hid hl
  rw [← hl] at hr sl
  have pw := Hol.inc_pw l _ ((Hol.right_iff l).1 hr).2
  have HR := Lib.hid hr
  have PW := Lib.hid pw
  have SL := Lib.hid (fun w' (S : Below w2.heap.size w2 w') => sl.below S)
  have HS2 := Lib.hid S2
  clear hl hr sl pw L G S2
  go_wp2_with (first | (go_at_call 33; (with_reducible refine (P.out _).mono ?_); rintro e w' ⟨rfl, rfl⟩) | (go_at_call 33; (with_reducible refine (Q.out _).mono ?_); rintro e w' ⟨rfl, rfl⟩) | (go_at_call 33; (with_reducible refine (R.out _).mono ?_); rintro e w' ⟨rfl, rfl⟩) | (go_at_call 34; fail))
  obtain ⟨A, hA⟩ : ∃ A, A = min x (min y (min (max x y) z)) := ⟨_, rfl⟩
  obtain ⟨B, hB⟩ : ∃ A, A = max (min x y) (min (max x y) z) := ⟨_, rfl⟩
  obtain ⟨C, hC⟩ : ∃ A, A = max x (max y z) := ⟨_, rfl⟩
  rw [← hA, ← hB, ← hC]
  have A0 : 0 ≤ A := by omega
  have AB : A ≤ B := by omega
  have BC : B ≤ C := by omega
  have C1 : C ≤ 730484 := by omega
  clear hA hB hC
  obtain ⟨r1, hr1⟩ : ∃ r, Hol.wb l B - Hol.wb l A = r := ⟨_, rfl⟩
  obtain ⟨r2, hr2⟩ : ∃ r, Hol.wb l C - Hol.wb l B = r := ⟨_, rfl⟩
  have hr3 : Hol.wb l C - Hol.wb l A = r1 + r2 := by omega
  have bA := wb_bd HR.out A A0 (by omega)
  have bB := wb_bd HR.out B (by omega) (by omega)
  have bC := wb_bd HR.out C (by omega) (by omega)
  have q1 : -730485 ≤ r1 ∧ r1 ≤ 730485 := by omega
  have q2 : -730485 ≤ r2 ∧ r2 ≤ 730485 := by omega
  have R1 := Lib.hid hr1
  have R2 := Lib.hid hr2
  have R3 := Lib.hid hr3
  clear hr1 hr2 hr3 bA bB bC
  refine (between_eq A B r1 _ l w2 _ T0 (SL.out _ T0.bl) HR.out A0 AB (by omega) R1.out).mono ?_
  rintro e w3 ⟨rfl, T3⟩
  go_wp2_with (first | (go_at_call 34; (with_reducible refine (between_eq B C r2 _ l w2 _ T3 (SL.out _ T3.bl) HR.out (by omega) BC C1 R2.out).mono ?_); rintro e w4 ⟨rfl, T4⟩)  | (go_at_call 34; (with_reducible refine (between_eq A C (r1 + r2) _ l w2 _ T4 (SL.out _ T4.bl) HR.out A0 (by omega) C1 R3.out).mono ?_); rintro e w5 ⟨rfl, T5⟩))
  go_loopw [16] (fun d wr => ∃ k : Int, A ≤ k ∧ k ≤ C ∧ d = .int .i64 k ∧ St w2 wr) (fun d _ => (730486 - intOf d).toNat)
  case atStart => exact ⟨A, Int.le_refl _, by omega, rfl, T5⟩
  case round =>
    obtain ⟨k, k1, k2, rfl, T6⟩ := hrel
    by_cases hlt : k < A + 7 ∧ k < C
    · obtain ⟨hl1, hl2⟩ := hlt
      have hmin : k < min (A + 7) C := by omega
      have su := Hol.wb_succ l k PW.out
      obtain ⟨bb, hb⟩ : ∃ b, Hol.works l k = b := ⟨_, rfl⟩
      rw [hb] at su
      have HBB := Lib.hid hb
      clear hb
      cases bb
      · have su' : Hol.wb l (k + 1) - Hol.wb l k = 0 := by simp at su; omega
        have SU := Lib.hid su'
        clear su su'
        go_wp2_with (first | (go_at_call 35; (with_reducible refine (works_eq k _ _ l w2 _ T6 (SL.out _ T6.bl) HR.out (by omega) (by omega) HBB.out).mono ?_); rintro e w7 ⟨rfl, T7⟩)  | (go_at_call 34; (with_reducible refine (between_eq k (k + 1) 0 _ l w2 _ T7 (SL.out _ T7.bl) HR.out (by omega) (by omega) (by omega) SU.out).mono ?_); rintro e w8 ⟨rfl, T8⟩))
        go_roundw
        case rel => exact ⟨k + 1, by omega, by omega, rfl, T8⟩
        case measure => simp [intOf]; omega
      · have su' : Hol.wb l (k + 1) - Hol.wb l k = 1 := by simp at su; omega
        have SU := Lib.hid su'
        clear su su'
        go_wp2_with (first | (go_at_call 35; (with_reducible refine (works_eq k _ _ l w2 _ T6 (SL.out _ T6.bl) HR.out (by omega) (by omega) HBB.out).mono ?_); rintro e w7 ⟨rfl, T7⟩)  | (go_at_call 34; (with_reducible refine (between_eq k (k + 1) 1 _ l w2 _ T7 (SL.out _ T7.bl) HR.out (by omega) (by omega) (by omega) SU.out).mono ?_); rintro e w8 ⟨rfl, T8⟩))
        go_roundw
        case rel => exact ⟨k + 1, by omega, by omega, rfl, T8⟩
        case measure => simp [intOf]; omega
    · have hmin : ¬ k < min (A + 7) C := by omega
      have F := Lib.hid (fun w0 w S => between_eq A (A + (C - A) / 7 * 7) ((C - A) / 7 * 5) (.slice none 0 0) [] w0 w S (Sl.nil _ _ _) right0 A0 (by omega) (by omega) (Hol.wb_free A ((C - A) / 7) A0 (by omega)))
      by_cases hK0 : K = 0
      · subst hK0
        go_wp2_with (go_at_call 34; (with_reducible refine (F.out w2 _ T6).mono ?_); rintro e w7 ⟨rfl, T7⟩)
        go_ret
        exact ⟨rfl, HS2.out.bl.trans (T7.bl.mono HS2.out.bl.size)⟩
      · obtain ⟨K', rfl⟩ : ∃ k, K = k + 1 := ⟨K - 1, by omega⟩
        obtain ⟨ai', cp', hv', hcell⟩ := HS.out
        simp only [Value.slice.injEq] at hv'
        obtain ⟨rfl, hbad, rfl⟩ := hv'
        clear hbad
        rcases hcell with h0 | ⟨g, off, rfl, hc⟩
        · exfalso; have := lsn_len us (K' + 1); rw [h0] at this; simp at this
        · rw [lsn_len] at hc
          obtain ⟨t, ht⟩ : ∃ t, t = (lsn us (K' + 1)).getD K' 0 := ⟨_, rfl⟩
          have hck := hc K' (by omega)
          rw [← ht] at hck
          have hblk := World.block_lt_of_cell? _ _ hck
          have CK := Lib.hid (fun W (hb : Below w2.heap.size w2 W) => (hb.cell (p := ⟨g, off + K', none⟩) hblk).trans hck)
          have happ : lsn us (K' + 1) = lsn us K' ++ [t] := by rw [ht]; exact lsn_app us K'
          have hinc := lsn_inc us (K' + 1) hK
          rw [happ] at hinc
          have hlast := (Hol.inc_snoc _ _ _).1 hinc
          have hb1 := lsn_bd us (K' + 1)
          have hb0 := lsn_bd us K'
          have et : (lsn us (K' + 1)).getLastD (-1) = t := by rw [happ]; simp [List.getLastD_eq_getLast?]
          rw [et] at hb1
          have t0 : 0 ≤ t := by omega
          have t1 : t ≤ 701000 := by omega
          have SL0 := Lib.hid (fun W (hb : Below w2.heap.size w2 W) => Sl.below (w := w2) (v := .slice (some ⟨g, off, none⟩) K' cp2) (zs := lsn us K') ⟨_, cp2, by rw [lsn_len], Or.inr ⟨g, off, rfl, fun j hj => by
            rw [lsn_len] at hj
            rw [hc j (by omega), happ, List.getD_eq_getElem?_getD, List.getD_eq_getElem?_getD, List.getElem?_append_left (by rw [lsn_len]; exact hj)]⟩⟩ hb)
          have HR0 := Lib.hid (lsn_right us K' (by omega))
          obtain ⟨l0, hl0⟩ : ∃ l0, l0 = lsn us K' := ⟨_, rfl⟩
          rw [← hl0] at SL0 HR0 happ hinc
          have hl := HL.out
          rw [happ] at hl
          have wN := Hol.works_new l0 t hinc
          have wA := fun d => Hol.wb_app l0 t d
          rw [← hl] at wA
          obtain ⟨bb, hbb⟩ : ∃ b, Hol.wk t = b := ⟨_, rfl⟩
          rw [hbb] at wN
          have wA0 := wA 0
          have wA1 := wA 730484
          rw [hbb, decide_eq_false (by omega)] at wA0
          rw [hbb, decide_eq_true (by omega)] at wA1
          obtain ⟨s, hs⟩ : ∃ s, Hol.wb l 730484 - Hol.wb l 0 = s := ⟨_, rfl⟩
          have bs0 := wb_bd HR.out 0 (by omega) (by omega)
          have bs1 := wb_bd HR.out 730484 (by omega) (by omega)
          have s1 : -730485 ≤ s ∧ s ≤ 730485 := by omega
          have HSS := Lib.hid hs
          have WN := Lib.hid wN
          cases bb
          · have hs0 : Hol.wb l0 730484 - Hol.wb l0 0 = s := by simp at wA0 wA1; omega
            have HS0 := Lib.hid hs0
            clear wA wA0 wA1 wN hbb hs hs0 bs0 bs1 hl happ hinc hlast hb1 hb0 et ht hc hck hl0
            go_wp2_with (first | (go_at_call 34; (with_reducible refine (F.out w2 _ T6).mono ?_); rintro e w7 ⟨rfl, T7⟩; have c7 := CK.out _ T7.bl)  | (go_at_call 34; (with_reducible refine (between_eq 0 730484 s (.slice (some ⟨g, off, none⟩) K' cp2) l0 w2 _ T7 (SL0.out _ T7.bl) HR0.out (by omega) (by omega) (by omega) HS0.out).mono ?_); rintro e w8 ⟨rfl, T8⟩)  | (go_at_call 34; (with_reducible refine (between_eq 0 730484 s _ l w2 _ T8 (SL.out _ T8.bl) HR.out (by omega) (by omega) (by omega) HSS.out).mono ?_); rintro e w9 ⟨rfl, T9⟩)  | (go_at_call 35; (with_reducible refine (works_eq t _ (.slice (some ⟨g, off, none⟩) K' cp2) l0 w2 _ T9 (SL0.out _ T9.bl) HR0.out t0 (by omega) WN.out).mono ?_); rintro e w10 ⟨rfl, T10⟩))
            go_ret
            exact ⟨rfl, HS2.out.bl.trans (T10.bl.mono HS2.out.bl.size)⟩
          · have hs0 : Hol.wb l0 730484 - Hol.wb l0 0 = s + 1 := by simp at wA0 wA1; omega
            have HS0 := Lib.hid hs0
            clear wA wA0 wA1 wN hbb hs hs0 bs0 bs1 hl happ hinc hlast hb1 hb0 et ht hc hck hl0
            go_wp2_with (first | (go_at_call 34; (with_reducible refine (F.out w2 _ T6).mono ?_); rintro e w7 ⟨rfl, T7⟩; have c7 := CK.out _ T7.bl)  | (go_at_call 34; (with_reducible refine (between_eq 0 730484 (s + 1) (.slice (some ⟨g, off, none⟩) K' cp2) l0 w2 _ T7 (SL0.out _ T7.bl) HR0.out (by omega) (by omega) (by omega) HS0.out).mono ?_); rintro e w8 ⟨rfl, T8⟩)  | (go_at_call 34; (with_reducible refine (between_eq 0 730484 s _ l w2 _ T8 (SL.out _ T8.bl) HR.out (by omega) (by omega) (by omega) HSS.out).mono ?_); rintro e w9 ⟨rfl, T9⟩)  | (go_at_call 35; (with_reducible refine (works_eq t _ (.slice (some ⟨g, off, none⟩) K' cp2) l0 w2 _ T9 (SL0.out _ T9.bl) HR0.out t0 (by omega) WN.out).mono ?_); rintro e w10 ⟨rfl, T10⟩))
            go_ret
            exact ⟨rfl, HS2.out.bl.trans (T10.bl.mono HS2.out.bl.size)⟩
theorem walk_civilAdds (w : World) (G : Gl w) (a0 : Option Addr) (len cap : Nat) (zs : List Int) (h : IsRow .u16 w a0 len cap zs) (a : Int) (_a1 : -9223372036854775808 ≤ a) (_a2 : a ≤ 9223372036854775807) (b : Int) (_b1 : -9223372036854775808 ≤ b) (_b2 : b ≤ 9223372036854775807) (c : Int) (_c1 : -9223372036854775808 ≤ c) (_c2 : c ≤ 9223372036854775807) :
    Calls Tryd.prog 10 #[.slice a0 len cap, .int .i64 a, .int .i64 b, .int .i64 c] w fun e w' => e = .returned (.bool true) ∧ Below w.heap.size w w' :=
  adds_walk (zs.take len) _ a b c w G (su_of h)
end Go.Proofs.YtcnnfgigpjbcpaaDoor
