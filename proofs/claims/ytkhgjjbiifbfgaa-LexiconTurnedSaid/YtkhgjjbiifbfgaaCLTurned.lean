/- LexiconTurned's walk. -/
import Derived.Test.YtkhgjjbiifbfgaaCLTurned0
import Derived.StillTailTactics
namespace Go.Proofs.Ytkhgjjbiifbfgaa
open Go.RowKit Go.Shelf
set_option maxRecDepth 100000 in
set_option maxHeartbeats 12800000 in
theorem turned_any (v : Value) (ws : List Ed.Bs) (s : Ed.Bs) (c : Ed.Cs) (most : Int) (mo : Ed.Bs) (w : World) (h : Tx w v ws) (hn : ws.length ≤ 9223372036854775807) (hs : s.length ≤ 60) (hf : Lx.few ws = true) (hc : Ed.Rc c) (hz : Lx.wrong [] ws = 0) (hmo : mo.length ≤ 9223372036854775807) (hv : v = .slice none 0 0 ∨ ∃ a n c, v = .slice (some a) n c) :
    Calls Try.prog 5 #[v, sb mo, sb s, cv c, .int .i64 most] w fun e w' => e = .returned (.bool true) ∧ Below w.heap.size w w' := by
  have AW := Lib.hid awake_any
  have B0 := Lib.hid (show Below w.heap.size w (w.alloc (.cells #[.int .i64 c.ins, .int .i64 c.del, .int .i64 c.chg, .int .i64 c.swp] 24)) from (Below.refl _ _).alloc (Nat.le_refl _) _)
  have K0 := Lib.hid (Bxc.made w c)
  have FW := Lib.hid (fun W (hb : Below w.heap.size w W) => few_any v ws W (h.below hb) hn)
  obtain ⟨h70, hn2⟩ := (Lx.few_iff ws).1 hf
  rw [hf] at FW
  have RI := Lib.hid (right_any c)
  rw [rcb_yes hc] at RI
  have NW := Lib.hid (fun W (hb : Below w.heap.size w W) => new_right v ws W (h.below hb) (by omega) h70 hz)
  have GD : Lx.Good ws := by have := (Lx.wrong_good ws [] Lx.Good.nil).1 hz; simpa using this
  have HGD := Lib.hid GD
  have HCC := Lib.hid hc
  have A1 := Lib.hid (fun B X W (h : Lex B X W ws) => near_any h (by omega) c hc s hs most)
  have A2 := Lib.hid (fun B X W (h : Lex B X W ws.reverse) => near_any h (by rw [List.length_reverse]; omega) c hc s hs most)
  have A3 := Lib.hid (fun B X W (h : Lex B X W (ws ++ [mo])) => near_any h (by rw [List.length_append]; simp; omega) c hc s hs most)
  have NB := Lib.hid (fun W u (h : Tx W u ws.reverse) => new_right u ws.reverse W h (by rw [List.length_reverse]; omega) (fun x hx => h70 x (List.mem_reverse.1 hx)) (Lx.wrong_turned hz))
  have NP := Lib.hid (fun W u (h : Tx W u (ws ++ [mo])) => new_any u (ws ++ [mo]) W h (by rw [List.length_append]; simp; omega) (fun x hx => by
    rcases List.mem_append.1 hx with hx | hx
    · have := h70 x hx; omega
    · rw [List.mem_singleton] at hx; rw [hx]; exact hmo))
  have q1 := Lx.near_turn_len c s ws most
  have q2 : Hid (∀ q (hq : q < (Lx.near c s ws most).length), ∃ i, ∃ h : i < ws.length, (Lx.near c s ws most)[q].1 = (i : Int) ∧ (Lx.near c s ws most)[q].2 = Ed.ds c s ws[i]) := fun q hq => Lx.near_word c s most hq
  have q3 : Hid (∀ k (hk : k < (Lx.near c s ws.reverse most).length), ∃ q, ∃ hq : q < (Lx.near c s ws most).length, (Lx.near c s ws.reverse most)[k].1 = (ws.length : Int) - 1 - (Lx.near c s ws most)[q].1 ∧ (Lx.near c s ws.reverse most)[k].2 = (Lx.near c s ws most)[q].2) := fun k hk => Lx.near_back c s most hk
  have q4 := Lx.near_plus c s ws mo most
  have q5 := Lx.near_len c s ws most
  have q6 := Lx.near_len c s (ws ++ [mo]) most
  rw [List.length_append, show [mo].length = 1 from rfl] at q6
  obtain ⟨l, hl⟩ : ∃ l, l = Lx.near c s ws most := ⟨_, rfl⟩
  obtain ⟨m, hm⟩ : ∃ m, m = Lx.near c s ws.reverse most := ⟨_, rfl⟩
  obtain ⟨o, ho⟩ : ∃ o, o = Lx.near c s (ws ++ [mo]) most := ⟨_, rfl⟩
  rw [← hl] at A1 q1 q2 q3 q4 q5
  rw [← hm] at A2 q1 q3
  rw [← ho] at A3 q4 q6
  obtain ⟨n, hn'⟩ : ∃ n, n = ws.length := ⟨_, rfl⟩
  obtain ⟨n1, hn1⟩ : ∃ n1, n1 = l.length := ⟨_, rfl⟩
  obtain ⟨n3, hn3⟩ : ∃ n3, n3 = o.length := ⟨_, rfl⟩
  have HN := Lib.hid hn'
  have HN1 := Lib.hid hn1
  have HN3 := Lib.hid hn3
  have HM := Lib.hid (q1.trans hn1.symm)
  have Q4 := Lib.hid q4
  have n1l : n1 ≤ n := by omega
  have n3l : n3 ≤ n + 1 := by omega
  have HT := Lib.hid h
  have HVV := Lib.hid hv
  obtain ⟨wa, wc, rfl, hwc⟩ := h
  have HC := Lib.hid hwc
  rw [← hn'] at FW NW hn2 HT hv HVV ⊢
  clear hn hf hz hc GD hl hm ho hn1 hn3 hn' q1 q4 q5 q6 h70 hwc hmo hv
  have MI : Hid (∀ w, (Instr.makeSlice 44 (.int .i64 (n : Int)) (.int .i64 (n : Int))).run Try.prog w = .ok (.slice (some ⟨w.heap.size, 0, none⟩) n n) (w.alloc (.cells (madeCells #[.int .i64 0] n) 3))) := run_make_row' (P := Try.prog) 44 3 (.int .i64 0) 8 Try.underlying44 info_int rfl .i64 .i64 n (by omega) (by omega)
  go_enter Try.func5, Try.ntmps5
  go_wp2_with (first
    | (go_at_call 7; (with_reducible refine (AW.out _).mono ?_); rintro e w1 ⟨rfl, b1⟩; have K1 := Lib.hid (K0.out.below b1); have B1 := Lib.hid (B0.out.trans (b1.mono B0.out.size)); obtain ⟨x0, x1, x2, x3⟩ := K1.out; clear b1)
    | (go_at_call 8; (with_reducible refine (FW.out _ B1.out).mono ?_); rintro e w2 ⟨rfl, rfl⟩)
    | (go_at_call 9; (with_reducible refine (RI.out _).mono ?_); rintro e w3 ⟨rfl, b3⟩; have K2 := Lib.hid (K1.out.below b3); have B2 := Lib.hid (B1.out.trans (b3.mono B1.out.size)); clear x0 x1 x2 x3; obtain ⟨x0, x1, x2, x3⟩ := K2.out; clear b3)
    | (go_at_call 10; (with_reducible refine (NW.out _ B2.out).mono ?_); rintro e w4 ⟨B, X, rfl, L4, b4⟩; have HL4 := Lib.hid L4; have B4 := Lib.hid (B2.out.trans (b4.mono B2.out.size)); have K4 := Lib.hid (K2.out.below b4); clear x0 x1 x2 x3 L4 b4; obtain ⟨x0, x1, x2, x3⟩ := K4.out))
  rename_i w4 _ _
  go_loopw [13, 14] (fun bv iv wr => ∃ j : Nat, j ≤ n ∧ iv = .int .i64 ((j : Int) - 1) ∧ Hid (Ot w4 wr bv (ws.reverse.take (n - j)))) (fun _ iv _ => (intOf iv + 1).toNat)
  case atStart => exact ⟨n, Nat.le_refl _, by go_num, by show Ot _ _ _ _; rw [Nat.sub_self, List.take_zero]; exact Ot.nil _⟩
  case round =>
    obtain ⟨j, hj, rfl, O⟩ := hrel
    cases j with
    | succ r =>
      have kl : r < ws.length := by rw [← HN.out]; omega
      obtain ⟨b, off, rfl, f0⟩ := HC.out.resolve_left (by intro e; rw [e] at kl; simp at kl)
      have f1 := kept_cell (B4.out.trans (O.out.bl.mono B4.out.size)) (f0 r kl)
      have TK : Hid (ws.reverse.take (n - (r + 1)) ++ [ws[r]] = ws.reverse.take (n - r)) := by
        show _ = _
        have h1 : n - (r + 1) < ws.reverse.length := by rw [List.length_reverse, ← HN.out]; omega
        have h2 : ws.reverse[n - (r + 1)] = ws[r] := by rw [List.getElem_reverse]; congr 1; have := HN.out; omega
        rw [show n - r = (n - (r + 1)) + 1 by omega, ← List.take_append_getElem h1, h2]
      have ll : (ws.reverse.take (n - (r + 1))).length ≤ 1000 := by rw [List.length_take, List.length_reverse, ← HN.out]; omega
      obtain ⟨y, hy⟩ : ∃ y, y = ws[r] := ⟨_, rfl⟩
      rw [← hy] at f1 TK
      have ir : (((r + 1 : Nat) : Int) - 1) = (r : Int) := by omega
      rw [ir]
      clear f0 kl hy ir
      go_wp2_with (at_builtin; refine wp_pusht rfl _ _ rfl _ _ rfl (O.out.alloc _) y _ 1 rfl ?cc (by omega) ?_)
      case cc => exact cell_at _ _ _ 0 _ _ rfl rfl
      intro v' w5 O5
      have O6 : Hid (Ot w4 w5 v' (ws.reverse.take (n - r))) := by show Ot _ _ _ _; rw [← TK.out]; exact O5
      clear O5
      go_wp2
      go_roundw
      case rel => exact ⟨r, by omega, by go_num, O6⟩
      case measure => simp [intOf]
    | zero =>
      have E : ws.reverse.take (n - 0) = ws.reverse := by rw [Nat.sub_zero, HN.out, ← List.length_reverse, List.take_length]
      rw [E] at O
      rw [show ((0 : Nat) : Int) - 1 = -1 from rfl]
      clear E hj
      obtain ⟨w5, hw5⟩ : ∃ x, x = wr := ⟨_, rfl⟩
      rw [← hw5] at O ⊢
      clear hw5
      have HL5 := Lib.hid (HL4.out.quiet O.out.bl)
      have B5 := Lib.hid (B4.out.trans (O.out.bl.mono B4.out.size))
      have K5 := Lib.hid (K4.out.below O.out.bl)
      clear x0 x1 x2 x3
      obtain ⟨x0, x1, x2, x3⟩ := K5.out
      have mi := MI.out
      go_wp2_with (first
        | (go_at_call 10; (with_reducible refine (NB.out _ _ O.out.tx).mono ?_); rintro e w6 ⟨B', Y, rfl, L6, b6⟩; have HY6 := Lib.hid L6; have HL6 := Lib.hid (HL5.out.quiet b6); have B6 := Lib.hid (B5.out.trans (b6.mono B5.out.size)); have K6 := Lib.hid (K5.out.below b6); clear x0 x1 x2 x3 L6 b6; obtain ⟨x0, x1, x2, x3⟩ := K6.out)
        | (go_at_call 11; (with_reducible refine (A1.out _ _ _ HL6.out).mono ?_); rintro e w7 ⟨v7, rfl, O7⟩; obtain ⟨a7, c7, rfl, hc7, -⟩ := O7.hl; rw [← HN1.out]; rw [← HN1.out] at hc7; have G7 := Lib.hid O7.hl; have HY7 := Lib.hid (HY6.out.quiet O7.bl); have B7 := Lib.hid (B6.out.trans (O7.bl.mono B6.out.size)); have K7 := Lib.hid (K6.out.below O7.bl); clear x0 x1 x2 x3 O7; obtain ⟨x0, x1, x2, x3⟩ := K7.out)
        | (go_at_call 11; (with_reducible refine (A2.out _ _ _ HY7.out).mono ?_); rintro e w8 ⟨v8, rfl, O8⟩; obtain ⟨a8, c8, rfl, hc8, -⟩ := O8.hl; rw [HM.out]; rw [HM.out] at hc8; have G8 := Lib.hid O8.hl; have G78 := Lib.hid (G7.out.below O8.bl); have B8 := Lib.hid (B7.out.trans (O8.bl.mono B7.out.size)); have K8 := Lib.hid (K7.out.below O8.bl); clear x0 x1 x2 x3 O8; obtain ⟨x0, x1, x2, x3⟩ := K8.out))
      clear mi x0 x1 x2 x3
      go_loopw [21] (fun kv wr => ∃ k : Nat, k ≤ n1 ∧ kv = .int .i64 k ∧ Hid (Below w8.heap.size w8 wr) ∧ Hid (Ic wr w8.heap.size n l k)) (fun kv _ => n1 - (intOf kv).toNat)
      case atStart => exact ⟨0, Nat.zero_le _, rfl, (Below.refl _ _).alloc (Nat.le_refl _) _, Ic.start _ _ _⟩
      case round =>
        obtain ⟨k, hk, rfl, BK, IC⟩ := hrel
        by_cases hlt : k < n1
        · have kl : k < l.length := by rw [← HN1.out]; exact hlt
          obtain ⟨b2, o2, rfl, y1, y2⟩ := Hl.at' (G78.out.below BK.out) rfl kl
          obtain ⟨i, hi, e1, e2⟩ := q2.out k kl
          have hin : i < n := by rw [HN.out]; exact hi
          have ID := Lib.hid (IC.out.quiet (show Below wr.heap.size wr wr.drew from (Below.refl _ _).drew))
          have BD := Lib.hid (BK.out.trans (show Below w8.heap.size wr wr.drew from (Below.refl _ _).drew))
          have PU : Hid (Ic (wr.setCell ⟨w8.heap.size, i, none⟩ (.int .i64 (wrap64 (l[k].2 + 1)))).drew w8.heap.size n l (k + 1)) := Ic.quiet (IC.out.put kl i hin e1 (fun q hq h => by
              obtain ⟨i2, hi2, g1, g2⟩ := q2.out q hq
              have : i2 = i := by omega
              subst this
              rw [g2, e2]) (fun q hq => by obtain ⟨i2, _, g1, _⟩ := q2.out q hq; omega)) (Below.refl _ _).drew
          obtain ⟨cv0, ce⟩ := ID.out.any hin
          have fz := ID.out.free i
          rw [e1] at y1
          obtain ⟨X2, hX2⟩ : ∃ X, X = l[k].2 := ⟨_, rfl⟩
          rw [← hX2] at y2 PU
          clear e1 e2 hX2
          go_wp2
          go_still_tail 12, (by kernel_rfl)
          change wpList _ _ _ _ _ wr.drew
          go_wp2
          go_roundw
          case rel => exact ⟨k + 1, by omega, by go_num, BD.out.setCell (p := ⟨w8.heap.size, i, none⟩) (Nat.le_refl _) _, PU⟩
          case measure => simp [intOf]; omega
        · have hkn : k = n1 := by omega
          rw [hkn] at IC ⊢
          clear hkn hlt hk
          obtain ⟨w9, hw9⟩ : ∃ x, x = wr := ⟨_, rfl⟩
          rw [← hw9] at BK IC ⊢
          clear hw9
          go_wp2
          go_loopw [22] (fun kv wr => ∃ k : Nat, k ≤ n1 ∧ kv = .int .i64 k ∧ Hid (Below w9.heap.size w9 wr)) (fun kv _ => n1 - (intOf kv).toNat)
          case atStart => exact ⟨0, Nat.zero_le _, rfl, Below.refl _ _⟩
          case round =>
            obtain ⟨k, hk, rfl, BQ⟩ := hrel
            have GM := Lib.hid ((G8.out.below BK.out).below BQ.out)
            by_cases hlt : k < n1
            · have km : k < m.length := by rw [HM.out]; exact hlt
              obtain ⟨q, hq, e1, e2⟩ := q3.out k km
              obtain ⟨i, hi, g1, _⟩ := q2.out q hq
              have hin : i < n := by rw [HN.out]; exact hi
              obtain ⟨b2, o2, rfl, y1, y2⟩ := Hl.at' GM.out rfl km
              have zc := (IC.out.quiet BQ.out).cell hq (by rw [HN1.out]; exact hq) g1
              rw [← e2] at zc
              rw [g1, ← HN.out] at e1
              obtain ⟨M1, hM1⟩ : ∃ X, X = m[k].1 := ⟨_, rfl⟩
              obtain ⟨M2, hM2⟩ : ∃ X, X = m[k].2 := ⟨_, rfl⟩
              rw [← hM1] at y1 e1
              rw [← hM2] at y2 zc
              rw [← IntWalk.i64_left] at zc
              rw [e1] at y1
              have ww : IntKind.i64.wrap (IntKind.i64.wrap ((n : Int) - 1) - ((n : Int) - 1 - (i : Int))) = (i : Int) := by
                rw [IntWalk.i64_in ((n : Int) - 1) (by omega), show (n : Int) - 1 - ((n : Int) - 1 - (i : Int)) = (i : Int) by omega]
                exact IntWalk.i64_in _ (by omega)
              clear e1 e2 g1 hM1 hM2
              go_wp2
              go_quiet (fail)
              go_wp2
              go_roundw
              case rel => exact ⟨k + 1, by omega, by go_num, by first | exact BQ.out | exact below_drewN BQ.out _ | exact below_drewN (below_drewN BQ.out _) _⟩
              case measure => simp [intOf]; omega
            · have hkn : k = n1 := by omega
              rw [hkn]
              clear hkn hlt hk GM
              obtain ⟨w10, hw10⟩ : ∃ x, x = wr := ⟨_, rfl⟩
              rw [← hw10] at BQ ⊢
              clear hw10
              have B10 := Lib.hid (B8.out.trans ((BK.out.trans (BQ.out.mono BK.out.size)).mono B8.out.size))
              have G10 := Lib.hid ((G78.out.below BK.out).below BQ.out)
              have K10 := Lib.hid ((K8.out.below BK.out).below BQ.out)
              obtain ⟨x0, x1, x2, x3⟩ := K10.out
              clear IC BK BQ G8 G78 B8 K8 HY7
              have T10 := Lib.hid (HT.out.below B10.out)
              by_cases hz2 : Lx.wrong [] (ws ++ [mo]) = 0
              · have HZ2 := Lib.hid hz2
                clear hz2
                go_wp2_with (first
                  | (at_builtin; refine wp_words rfl _ _ rfl _ [] rfl (Ot.empty _) (.slice wa n wc) ws rfl (T10.out.below ((Below.refl _ _).alloc (Nat.le_refl _) _)) HVV.out (by rw [← HN.out]; simp; omega) ?_; intro v11 w11 O11; have HO11 := Lib.hid O11; have f11 := O11.bl.size; clear O11)
                  | (at_builtin; refine wp_pusht rfl _ _ rfl _ ws rfl (HO11.out.alloc _) mo _ 1 rfl (cell_at _ _ _ 0 _ _ rfl rfl) (by rw [← HN.out]; omega) ?_; intro v12 w12 O12; have HO12 := Lib.hid O12; have L12 := Lib.hid (G10.out.below O12.bl); have B12 := Lib.hid (B10.out.trans (O12.bl.mono B10.out.size)); have K12 := Lib.hid (K10.out.below O12.bl); clear O12 f11 x0 x1 x2 x3)
                  | (go_at_call 10; (with_reducible refine (NP.out _ _ HO12.out.tx).mono ?_); rintro e w13 ⟨b13, h13⟩; obtain ⟨-, Z, rfl, LZ⟩ := h13.resolve_right (fun h => h.1 HZ2.out); have HZ13 := Lib.hid LZ; have L13 := Lib.hid (L12.out.below b13); have B13 := Lib.hid (B12.out.trans (b13.mono B12.out.size)); have K13 := Lib.hid (K12.out.below b13); clear h13 b13 LZ; obtain ⟨x0, x1, x2, x3⟩ := K13.out)
                  | (go_at_call 11; (with_reducible refine (A3.out _ _ _ HZ13.out).mono ?_); rintro e w14 ⟨v14, rfl, O14⟩; obtain ⟨a14, c14, rfl, hc14, -⟩ := O14.hl; rw [← HN3.out]; rw [← HN3.out] at hc14; have G14 := Lib.hid O14.hl; have L14 := Lib.hid (L13.out.below O14.bl); have B14 := Lib.hid (B13.out.trans (O14.bl.mono B13.out.size)); clear x0 x1 x2 x3 O14))
                go_loopw [24, 27] (fun ov kv wr => ∃ k : Nat, k ≤ n3 ∧ kv = .int .i64 k ∧ Hid (Oh w14 wr ov ((o.take k).filter fun h => decide (h.1 < (n : Int))))) (fun _ kv _ => n3 - (intOf kv).toNat)
                case atStart => exact ⟨0, Nat.zero_le _, rfl, by show Oh _ _ _ _; rw [List.take_zero]; exact Oh.nil (Below.refl _ _)⟩
                case round =>
                  obtain ⟨k, hk, rfl, OH⟩ := hrel
                  have G := Lib.hid (G14.out.below OH.out.bl)
                  by_cases hlt : k < n3
                  · have km : k < o.length := by rw [← HN3.out]; exact hlt
                    obtain ⟨b2, o2, rfl, y1, y2⟩ := Hl.at' G.out rfl km
                    have TK : o.take (k + 1) = o.take k ++ [o[k]] := (List.take_append_getElem km).symm
                    have ll : ((o.take k).filter fun h => decide (h.1 < (n : Int))).length ≤ k := Nat.le_trans (List.length_filter_le _ _) (by rw [List.length_take]; omega)
                    obtain ⟨x, hx⟩ : ∃ x, x = o[k] := ⟨_, rfl⟩
                    rw [← hx] at y1 y2 TK
                    by_cases hw : x.1 < (n : Int)
                    · have FL : Hid ((o.take (k + 1)).filter (fun h => decide (h.1 < (n : Int))) = (o.take k).filter (fun h => decide (h.1 < (n : Int))) ++ [x]) := by show _ = _; rw [TK, List.filter_append]; simp [hw]
                      clear TK hx
                      have OW := Lib.hid OH.out
                      go_wp2_with (at_builtin; refine wp_pushh rfl _ _ rfl _ _ rfl (OW.out.alloc _) x _ 1 rfl ?cc (by omega) ?_)
                      case cc =>
                        intro j u hj
                        match j, hj with
                        | 0, hj => exact cell_at _ _ _ 0 _ _ (by simp) hj
                        | 1, hj => exact cell_at _ _ _ 1 _ _ (by simp) hj
                        | j + 2, hj => simp [encH] at hj
                      intro v' w3 O3
                      have O4 := Lib.hid O3
                      clear O3
                      go_wp2
                      go_roundw
                      case rel => exact ⟨k + 1, by omega, by go_num, by show Oh _ _ _ _; rw [FL.out]; exact O4.out⟩
                      case measure => simp [intOf]; omega
                    · have FL : Hid ((o.take (k + 1)).filter (fun h => decide (h.1 < (n : Int))) = (o.take k).filter (fun h => decide (h.1 < (n : Int)))) := by show _ = _; rw [TK, List.filter_append]; simp [hw]
                      clear TK hx
                      go_wp2
                      go_roundw
                      case rel => exact ⟨k + 1, by omega, by go_num, by show Oh _ _ _ _; rw [FL.out]; exact OH.out⟩
                      case measure => simp [intOf]; omega
                  · have hkn : k = n3 := by omega
                    have SM : Hid (Calls Try.prog 14 #[u24, .slice a7 n1 c7] wr fun e w' => e = .returned (.bool true) ∧ Below wr.heap.size wr w') := by
                      have g1 := OH.out.hl
                      rw [hkn, HN3.out, List.take_length, HN.out, Q4.out] at g1
                      have g2 := L14.out.below OH.out.bl
                      rw [← HN1.out] at g2
                      exact same_yes _ _ l wr g1 g2 (by rw [← HN1.out]; omega)
                    have BZ := Lib.hid (B14.out.trans (OH.out.bl.mono B14.out.size))
                    clear hkn
                    go_wp2_with (first
                      | (go_at_call 14; (with_reducible refine SM.out.mono ?_); rintro e w15 ⟨rfl, b15⟩; have B15 := Lib.hid (BZ.out.trans (b15.mono BZ.out.size)); clear b15))
                    go_ret
                    exact ⟨rfl, B15.out⟩
              · obtain ⟨z, hz⟩ : ∃ z, z = Lx.wrong [] (ws ++ [mo]) := ⟨_, rfl⟩
                rw [← hz] at NP hz2
                have zz : (z != 0) = true := by simpa using hz2
                have HZ2 := Lib.hid hz2
                clear hz hz2
                go_wp2_with (first
                  | (at_builtin; refine wp_words rfl _ _ rfl _ [] rfl (Ot.empty _) (.slice wa n wc) ws rfl (T10.out.below ((Below.refl _ _).alloc (Nat.le_refl _) _)) HVV.out (by rw [← HN.out]; simp; omega) ?_; intro v11 w11 O11; have HO11 := Lib.hid O11; have f11 := O11.bl.size; clear O11)
                  | (at_builtin; refine wp_pusht rfl _ _ rfl _ ws rfl (HO11.out.alloc _) mo _ 1 rfl (cell_at _ _ _ 0 _ _ rfl rfl) (by rw [← HN.out]; omega) ?_; intro v12 w12 O12; have HO12 := Lib.hid O12; have B12 := Lib.hid (B10.out.trans (O12.bl.mono B10.out.size)); clear O12 f11)
                  | (go_at_call 10; (with_reducible refine (NP.out _ _ HO12.out.tx).mono ?_); rintro e w13 ⟨b13, h13⟩; obtain ⟨-, rfl⟩ := h13.resolve_left (fun h => HZ2.out h.1); have B13 := Lib.hid (B12.out.trans (b13.mono B12.out.size)); clear h13 b13))
                go_ret
                exact ⟨rfl, B13.out⟩
theorem walk_lexiconTurned (W : World) (v : Value) (l : List Ed.Bs) (u : Tx W v l) (x : l.length ≤ 9223372036854775807) (_ : ∀ x ∈ l, x.length ≤ 9223372036854775807) (hv : v = .slice none 0 0 ∨ ∃ a n c, v = .slice (some a) n c) (b : ByteArray) (hb : b.size ≤ maxLen) (a : ByteArray) (ha : a.size ≤ maxLen) (c : Ed.Cs) (m : Int) (_ : -9223372036854775808 ≤ m) (_ : m ≤ 9223372036854775807) :
    Calls Try.prog 5 #[v, .string b, .string a, cv c, .int .i64 m] W fun e w' => e = .returned (.bool true) ∧ Below W.heap.size W w' := by
  have e : (.string a : Value) = sb a.data.toList := rfl
  have e2 : (.string b : Value) = sb b.data.toList := rfl
  rw [e, e2]
  have la : a.data.toList.length ≤ 9223372036854775807 := by rw [Ed.list_size]; unfold maxLen at ha; omega
  have lb : b.data.toList.length ≤ 9223372036854775807 := by rw [Ed.list_size]; unfold maxLen at hb; omega
  by_cases hf : Lx.few l = true
  · by_cases hp : a.data.toList.length ≤ 60
    · by_cases hc : Ed.Rc c
      · by_cases hz : Lx.wrong [] l = 0
        · exact turned_any v l _ c m _ W u x hp hf hc hz lb hv
        · exact turned_wrong v l _ c m _ W u x hp hf hc hz
      · exact turned_bad v l _ c m _ W u x hp hf hc
    · exact turned_no v l _ c m _ W u x la (Or.inr (by omega))
  · exact turned_no v l _ c m _ W u x la (Or.inl (by simpa using hf))
end Go.Proofs.Ytkhgjjbiifbfgaa
