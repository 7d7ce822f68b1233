/- LexiconAll's walk. -/
import Derived.Test.YtkhgjjbiifbfgaaCLAll0
import Derived.StillTailTactics
namespace Go.Proofs.Ytkhgjjbiifbfgaa
open Go.RowKit Go.Shelf
set_option maxRecDepth 100000 in
set_option maxHeartbeats 12800000 in
theorem all_any (v : Value) (ws : List Ed.Bs) (s : Ed.Bs) (c : Ed.Cs) (most : Int) (w : World) (h : Tx w v ws) (hn : ws.length ≤ 9223372036854775807) (hs : s.length ≤ 60) (hf : Lx.few ws = true) (hc : Ed.Rc c) (hz : Lx.wrong [] ws = 0) :
    Calls Try.prog 3 #[v, sb s, cv c, .int .i64 most] w fun e w' => e = .returned (.bool true) ∧ Below w.heap.size w w' := by
  have AW := Lib.hid awake_any
  have B0 := Lib.hid (show Below w.heap.size w (w.alloc (.cells #[.int .i64 c.ins, .int .i64 c.del, .int .i64 c.chg, .int .i64 c.swp] 24)) from (Below.refl _ _).alloc (Nat.le_refl _) _)
  have K0 := Lib.hid (Bxc.made w c)
  have FW := Lib.hid (fun W (hb : Below w.heap.size w W) => few_any v ws W (h.below hb) hn)
  obtain ⟨h70, hn2⟩ := (Lx.few_iff ws).1 hf
  rw [hf] at FW
  have RI := Lib.hid (right_any c)
  rw [rcb_yes hc] at RI
  have NW := Lib.hid (fun W (hb : Below w.heap.size w W) => new_right v ws W (h.below hb) (by omega) h70 hz)
  have GD : Lx.Good ws := by have := (Lx.wrong_good ws [] Lx.Good.nil).1 hz; simpa using this
  have HGD := Lib.hid GD
  have HCC := Lib.hid hc
  have A1 := Lib.hid (fun B X W (h : Lex B X W ws) => near_any h (by omega) c hc s hs most)
  have A2 := Lib.hid (fun B X W (h : Lex B X W ws) => best_any h (by omega) c hc s hs most)
  obtain ⟨l, hl⟩ : ∃ l, l = Lx.near c s ws most := ⟨_, rfl⟩
  have q4 : Hid (∀ i (hi : i < ws.length), l.filter (fun x => x.1 == (i : Int)) = if Ed.ds c s ws[i] ≤ most then [((i : Int), Ed.ds c s ws[i])] else []) := fun i hi => by subst hl; exact Lx.near_one c s most hi
  have q5 : Hid (∀ q (hq : q < l.length) i (hi : i < ws.length), l[q].1 = (i : Int) → l[q].2 = Ed.ds c s ws[i]) := fun q hq i hi h => by subst hl; exact Lx.near_at c s most hq hi h
  have q6 : Hid (∀ q (hq : q + 1 < l.length), l[q].2 ≤ l[q + 1].2 ∧ (l[q + 1].2 = l[q].2 → l[q].1 < l[q + 1].1)) := fun q hq => by subst hl; exact Lx.near_next c s most hq
  have q1 : l.length ≤ ws.length := by rw [hl]; exact Lx.near_len c s ws most
  have q2 : l.take (bst l).length = bst l := Lx.bst_take l (by rw [hl]; exact Lx.near_cost c s ws most)
  have q3 : (Lx.rawN c s ws most ws.length).length = l.length := by rw [hl]; exact Lx.near_all c s ws most
  rw [← hl] at A1 A2
  obtain ⟨n1, hn1⟩ : ∃ n1, n1 = l.length := ⟨_, rfl⟩
  obtain ⟨nb, hnb⟩ : ∃ nb, nb = (bst l).length := ⟨_, rfl⟩
  obtain ⟨n, hn'⟩ : ∃ n, n = ws.length := ⟨_, rfl⟩
  have HN := Lib.hid hn'
  have HN1 := Lib.hid hn1
  have HNB := Lib.hid hnb
  have Q2 := Lib.hid q2
  have Q3 := Lib.hid q3
  have n1l : n1 ≤ 200 := by omega
  have nbl : nb ≤ n1 := by rw [hnb, hn1]; exact bst_len l
  have HT := Lib.hid h
  have H70 := Lib.hid (fun x (hx : x ∈ ws) => (GD.le x hx))
  obtain ⟨wa, wc, rfl, hwc⟩ := h
  have HC := Lib.hid hwc
  have DI := Lib.hid (fun y (hy : y.length ≤ 60) => distance_ok c hc s y hs hy)
  have rl := Lx.rawN_len c s ws most
  have RL : Hid (∀ k, (Lx.rawN c s ws most k).length ≤ k) := rl
  rw [← hn'] at FW NW hn2 HT ⊢
  clear hn hf hz hc GD hl hn1 hnb hn' q1 q2 q3 h70 hwc rl
  go_enter Try.func3, Try.ntmps3
  go_wp2_with (first
    | (go_at_call 7; (with_reducible refine (AW.out _).mono ?_); rintro e w1 ⟨rfl, b1⟩; have K1 := Lib.hid (K0.out.below b1); have B1 := Lib.hid (B0.out.trans (b1.mono B0.out.size)); obtain ⟨x0, x1, x2, x3⟩ := K1.out; clear b1)
    | (go_at_call 8; (with_reducible refine (FW.out _ B1.out).mono ?_); rintro e w2 ⟨rfl, rfl⟩)
    | (go_at_call 9; (with_reducible refine (RI.out _).mono ?_); rintro e w3 ⟨rfl, b3⟩; have K2 := Lib.hid (K1.out.below b3); have B2 := Lib.hid (B1.out.trans (b3.mono B1.out.size)); clear x0 x1 x2 x3; obtain ⟨x0, x1, x2, x3⟩ := K2.out; clear b3)
    | (go_at_call 10; (with_reducible refine (NW.out _ B2.out).mono ?_); rintro e w4 ⟨B, X, rfl, L4, b4⟩; have HL4 := Lib.hid L4; have B4 := Lib.hid (B2.out.trans (b4.mono B2.out.size)); have K4 := Lib.hid (K2.out.below b4); clear x0 x1 x2 x3 L4 b4; obtain ⟨x0, x1, x2, x3⟩ := K4.out)
    | (go_at_call 11; (with_reducible refine (A1.out _ _ _ HL4.out).mono ?_); rintro e w5 ⟨v5, rfl, O5⟩; obtain ⟨a5, c5, rfl, hc5, -⟩ := O5.hl; rw [← HN1.out]; rw [← HN1.out] at hc5; have G5 := Lib.hid O5.hl; have L5 := Lib.hid (HL4.out.quiet O5.bl); have B5 := Lib.hid (B4.out.trans (O5.bl.mono B4.out.size)); have K5 := Lib.hid (K4.out.below O5.bl); clear x0 x1 x2 x3 O5; obtain ⟨x0, x1, x2, x3⟩ := K5.out)
    | (go_at_call 12; (with_reducible refine (A2.out _ _ _ L5.out).mono ?_); rintro e w6 ⟨v6, rfl, O6⟩; obtain ⟨a6, c6, rfl, hc6, -⟩ := O6.hl; rw [← HNB.out]; have G6 := Lib.hid O6.hl; have G56 := Lib.hid (G5.out.below O6.bl); have B6 := Lib.hid (B5.out.trans (O6.bl.mono B5.out.size)); have K6 := Lib.hid (K5.out.below O6.bl); clear x0 x1 x2 x3 hc6 O6))
  go_loopw [14, 15] (fun av i wr => ∃ k : Nat, k ≤ n ∧ i = .int .i64 k ∧ av = .int .i64 ((Lx.rawN c s ws most k).length : Nat) ∧ Hid (Below w6.heap.size w6 wr)) (fun _ i _ => n - (intOf i).toNat)
  case atStart => exact ⟨0, Nat.zero_le _, rfl, rfl, Below.refl _ _⟩
  case round =>
    obtain ⟨k, hk, rfl, rfl, BR⟩ := hrel
    have KR := Lib.hid (K6.out.below BR.out)
    have GR := Lib.hid (G56.out.below BR.out)
    have BW := Lib.hid (B6.out.trans (BR.out.mono B6.out.size))
    by_cases hlt : k < n
    · have kl : k < ws.length := by rw [← HN.out]; exact hlt
      obtain ⟨b, off, rfl, f0⟩ := HC.out.resolve_left (by intro e; rw [e] at kl; simp at kl)
      have f1 := kept_cell BW.out (f0 k kl)
      have D0 := DI.out ws[k] (by have := H70.out _ (List.getElem_mem kl); omega)
      have C4 := q4.out k kl
      have C5 : Hid (∀ q (hq : q < l.length), l[q].1 = (k : Int) → l[q].2 = Ed.ds c s ws[k]) := fun q hq hh => q5.out q hq k kl hh
      have RY : Hid ((Lx.rawN c s ws most (k + 1)).length = (Lx.rawN c s ws most k).length + (if Ed.ds c s ws[k] ≤ most then 1 else 0)) := by
        show _ = _
        by_cases hd : Ed.ds c s ws[k] ≤ most
        · rw [Lx.rawN_yes kl hd, List.length_append, if_pos hd]; rfl
        · rw [Lx.rawN_no kl hd, if_neg hd, Nat.add_zero]
      have RB := RL.out k
      obtain ⟨y, hy⟩ : ∃ y, y = ws[k] := ⟨_, rfl⟩
      obtain ⟨d, hd⟩ : ∃ d, d = Ed.ds c s ws[k] := ⟨_, rfl⟩
      rw [← hd] at D0 C4 C5 RY
      rw [← hy] at f1 D0
      have HD0 := Lib.hid D0
      have HC4 := Lib.hid C4
      obtain ⟨ra, hra⟩ : ∃ ra, ra = (Lx.rawN c s ws most k).length := ⟨_, rfl⟩
      rw [← hra] at RY RB ⊢
      clear f0 kl hy hd D0 C4 hra
      go_wp2
      have f1 : wr.drew.cell? ⟨b, off + k, none⟩ = some (.string ⟨y.toArray⟩) := f1
      have z0 : wr.drew.cell? ⟨w.heap.size, 0, none⟩ = some (.int .i64 c.ins) := KR.out.x0
      have z1 : wr.drew.cell? ⟨w.heap.size, 1, none⟩ = some (.int .i64 c.del) := KR.out.x1
      have z2 : wr.drew.cell? ⟨w.heap.size, 2, none⟩ = some (.int .i64 c.chg) := KR.out.x2
      have z3 : wr.drew.cell? ⟨w.heap.size, 3, none⟩ = some (.int .i64 c.swp) := KR.out.x3
      have gb : Below wr.heap.size wr wr.drew := (Below.refl _ _).drew
      go_region_held3 (fun w' => w'.cell? ⟨b, off + k, none⟩ = some (.string ⟨y.toArray⟩) ∧ w'.cell? ⟨w.heap.size, 0, none⟩ = some (.int .i64 c.ins) ∧ w'.cell? ⟨w.heap.size, 1, none⟩ = some (.int .i64 c.del) ∧ w'.cell? ⟨w.heap.size, 2, none⟩ = some (.int .i64 c.chg) ∧ w'.cell? ⟨w.heap.size, 3, none⟩ = some (.int .i64 c.swp)) (first | (refine ⟨?_, ?_, ?_, ?_, ?_⟩ <;> assumption) | skip)
        (first | (go_at_call 13; (with_reducible refine (HD0.out _).mono ?_); rintro e w7 ⟨rfl, b5⟩; have f1 := kept_cell b5 f1; have z0 := kept_cell b5 z0; have z1 := kept_cell b5 z1; have z2 := kept_cell b5 z2; have z3 := kept_cell b5 z3; have gb := gb.trans (b5.mono gb.size); clear b5))
      have B7 := Lib.hid gb
      have G7 := Lib.hid (GR.out.below gb)
      clear gb f1 z0 z1 z2 z3
      go_wp2
      go_loop [18, 19] (fun iv qi => ∃ q : Nat, q ≤ n1 ∧ qi = .int .i64 q ∧ iv = .int .i64 (((l.take q).filter (fun x => x.1 == (k : Int))).length : Nat)) (fun _ qi => n1 - (intOf qi).toNat)
      case atStart => exact ⟨0, Nat.zero_le _, rfl, by rw [List.take_zero]; rfl⟩
      case round =>
        obtain ⟨q, hq, rfl, rfl⟩ := hrel
        have cb : ((l.take q).filter (fun x => x.1 == (k : Int))).length ≤ q := Nat.le_trans (List.length_filter_le _ _) (by rw [List.length_take]; omega)
        by_cases hql : q < n1
        · have ql : q < l.length := by rw [← HN1.out]; exact hql
          obtain ⟨b2, o2, rfl, y1, y2⟩ := Hl.at' G7.out rfl ql
          have TK : l.take (q + 1) = l.take q ++ [l[q]] := (List.take_append_getElem ql).symm
          by_cases e1 : l[q].1 = (k : Int)
          · have e2 := C5.out q ql e1
            have FL : Hid (((l.take (q + 1)).filter (fun x => x.1 == (k : Int))).length = ((l.take q).filter (fun x => x.1 == (k : Int))).length + 1) := by show _ = _; rw [TK, List.filter_append, List.length_append]; simp [e1]
            rw [e1] at y1
            rw [e2] at y2
            obtain ⟨cq, hcq⟩ : ∃ cq, cq = ((l.take q).filter (fun x => x.1 == (k : Int))).length := ⟨_, rfl⟩
            rw [← hcq] at cb FL ⊢
            clear TK ql e1 e2 hcq
            go_wp2
            go_round
            case rel => exact ⟨q + 1, by omega, by go_num, by rw [FL.out]; go_num⟩
            case measure => simp [intOf]; omega
          · have FL : Hid (((l.take (q + 1)).filter (fun x => x.1 == (k : Int))).length = ((l.take q).filter (fun x => x.1 == (k : Int))).length) := by show _ = _; rw [TK, List.filter_append, List.length_append]; simp [e1]
            have d1 : (l[q].1 == (k : Int)) = false := beq_eq_false_iff_ne.2 e1
            obtain ⟨x1, hx1⟩ : ∃ x1, x1 = l[q].1 := ⟨_, rfl⟩
            rw [← hx1] at y1 d1
            obtain ⟨cq, hcq⟩ : ∃ cq, cq = ((l.take q).filter (fun x => x.1 == (k : Int))).length := ⟨_, rfl⟩
            rw [← hcq] at cb FL ⊢
            clear TK ql e1 hcq hx1 y2
            go_wp2
            go_round
            case rel => exact ⟨q + 1, by omega, by go_num, by rw [FL.out]⟩
            case measure => simp [intOf]; omega
        · have hqn : q = n1 := by omega
          have EC : ((l.take q).filter (fun x => x.1 == (k : Int))).length = (if d ≤ most then 1 else 0) := by rw [hqn, HN1.out, List.take_length, HC4.out]; split <;> rfl
          rw [EC]
          clear EC cb hqn
          by_cases hd : d ≤ most
          · rw [if_pos hd] at RY ⊢
            go_wp2
            go_roundw
            case rel => exact ⟨k + 1, by omega, by go_num, by rw [RY.out]; go_num, BR.out.trans (B7.out.mono BR.out.size)⟩
            case measure => simp [intOf]; omega
          · rw [if_neg hd] at RY ⊢
            have hd2 : most < d := by omega
            go_wp2
            go_roundw
            case rel => exact ⟨k + 1, by omega, by go_num, by rw [RY.out]; go_num, BR.out.trans (B7.out.mono BR.out.size)⟩
            case measure => simp [intOf]; omega
    · have hkn : k = n := by omega
      have EA : (Lx.rawN c s ws most k).length = n1 := by rw [hkn, HN.out, Q3.out, HN1.out]
      rw [EA]
      clear EA hkn
      obtain ⟨c0, hc0⟩ : ∃ c0, c0 = (l.getD 0 (0, 0)).2 := ⟨_, rfl⟩
      have EB : Hid (bst l = l.filter fun x => x.2 == c0) := by show _ = _; rw [hc0]; rfl
      have HC0 := Lib.hid hc0
      clear hc0
      obtain ⟨w8, hw8⟩ : ∃ x, x = wr := ⟨_, rfl⟩
      rw [← hw8] at BR KR GR BW ⊢
      clear hw8
      go_wp2
      go_loopw [20, 21] (fun fv qi wr => ∃ q : Nat, q ≤ n1 ∧ qi = .int .i64 q ∧ fv = .int .i64 (((l.take q).filter (fun x => x.2 == c0)).length : Nat) ∧ Hid (Below w8.heap.size w8 wr)) (fun _ qi _ => n1 - (intOf qi).toNat)
      case atStart => exact ⟨0, Nat.zero_le _, rfl, by rw [List.take_zero]; rfl, Below.refl _ _⟩
      case round =>
        obtain ⟨q, hq, rfl, rfl, BQ⟩ := hrel
        have cb : ((l.take q).filter (fun x => x.2 == c0)).length ≤ q := Nat.le_trans (List.length_filter_le _ _) (by rw [List.length_take]; omega)
        have GQ := Lib.hid (GR.out.below BQ.out)
        by_cases hql : q < n1
        · have ql : q < l.length := by rw [← HN1.out]; exact hql
          have n10 : 0 < n1 := by omega
          obtain ⟨b2, o2, rfl, y1, y2⟩ := Hl.at' GQ.out rfl ql
          have TK : l.take (q + 1) = l.take q ++ [l[q]] := (List.take_append_getElem ql).symm
          have l0 : 0 < l.length := Nat.lt_of_le_of_lt (Nat.zero_le _) ql
          have yc := (Hl.at' GQ.out rfl l0)
          have e0 : (l[0]'l0).2 = c0 := by rw [HC0.out, List.getD_eq_getElem?_getD, List.getElem?_eq_getElem l0]; rfl
          have z2 : wr.cell? ⟨b2, o2 + 1, none⟩ = some (.int .i64 c0) := by
            obtain ⟨b3, o3, e3, -, h3⟩ := yc
            cases e3
            rw [e0, Nat.zero_mul, Nat.add_zero] at h3
            exact h3
          have FL : Hid (((l.take (q + 1)).filter (fun x => x.2 == c0)).length = ((l.take q).filter (fun x => x.2 == c0)).length + (if l[q].2 = c0 then 1 else 0)) := by
            show _ = _
            rw [TK, List.filter_append, List.length_append]
            by_cases e : l[q].2 = c0
            · rw [if_pos e]; simp [e]
            · rw [if_neg e]; simp [e]
          obtain ⟨cq, hcq⟩ : ∃ cq, cq = ((l.take q).filter (fun x => x.2 == c0)).length := ⟨_, rfl⟩
          rw [← hcq] at cb FL ⊢
          have e9 := e0
          clear yc e0 TK hcq
          cases q with
          | zero =>
            have e1 : (l[0]'ql).2 = c0 := e9
            have FL := FL.out
            rw [if_pos e1] at FL
            have FL := Lib.hid FL
            rw [e1] at y2
            rw [Nat.zero_mul, Nat.add_zero] at y1
            rw [Nat.zero_mul, Nat.add_zero] at y2
            have dc : (c0 == c0) = true := by simp
            have dz : decide ((0 : Int) < ((0 : Nat) : Int)) = false := by decide
            clear e1 e9 y1 z2
            go_wp2
            go_quiet (fail)
            go_wp2
            go_quiet (fail)
            go_wp2
            go_roundw
            case rel => exact ⟨0 + 1, by omega, by go_num, by rw [FL.out]; go_num, by first | exact BQ.out | exact below_drewN BQ.out _ | exact below_drewN (below_drewN BQ.out _) _⟩
            case measure => simp [intOf]; omega
          | succ r =>
            clear e9
            obtain ⟨s1, s2⟩ := q6.out r ql
            obtain ⟨b3, o3, e3, p1, p2⟩ := Hl.at' GQ.out rfl (show r < l.length by omega)
            cases e3
            obtain ⟨X1, hX1⟩ : ∃ X, X = l[r + 1].1 := ⟨_, rfl⟩
            obtain ⟨X2, hX2⟩ : ∃ X, X = l[r + 1].2 := ⟨_, rfl⟩
            obtain ⟨P1, hP1⟩ : ∃ X, X = l[r].1 := ⟨_, rfl⟩
            obtain ⟨P2, hP2⟩ : ∃ X, X = l[r].2 := ⟨_, rfl⟩
            rw [← hX1] at y1 s2
            rw [← hX2] at y2 s1 s2 FL
            rw [← hP1] at p1 s2
            rw [← hP2] at p2 s1 s2
            have dl : decide (X2 < P2) = false := decide_eq_false (by omega)
            have ww : IntKind.i64.wrap ((r : Int) + 1 - 1) = (r : Int) := by rw [show (r : Int) + 1 - 1 = (r : Int) by omega]; exact IntWalk.i64_in _ (by omega)
            clear hX1 hX2 hP1 hP2
            by_cases eq : X2 = P2
            · have s3 := s2 eq
              have dq : (X2 == P2) = true := by rw [eq]; simp
              have dw : decide (X1 ≤ P1) = false := decide_eq_false (by omega)
              clear s1 s2 eq ql
              by_cases ec : X2 = c0
              · have dc : (X2 == c0) = true := by rw [ec]; simp
                have FL := FL.out
                rw [if_pos ec] at FL
                have FL := Lib.hid FL
                clear ec
                go_wp2
                go_quiet (fail)
                go_wp2
                go_quiet (fail)
                go_wp2
                go_roundw
                case rel => exact ⟨r + 1 + 1, by omega, by go_num, by rw [FL.out]; go_num, by first | exact BQ.out | exact below_drewN BQ.out _ | exact below_drewN (below_drewN BQ.out _) _⟩
                case measure => simp [intOf]; omega
              · have dc : (X2 == c0) = false := beq_eq_false_iff_ne.2 ec
                have FL := FL.out
                rw [if_neg ec, Nat.add_zero] at FL
                have FL := Lib.hid FL
                clear ec
                go_wp2
                go_quiet (fail)
                go_wp2
                go_quiet (fail)
                go_wp2
                go_roundw
                case rel => exact ⟨r + 1 + 1, by omega, by go_num, by simp only [FL.out, Nat.add_zero], by first | exact BQ.out | exact below_drewN BQ.out _ | exact below_drewN (below_drewN BQ.out _) _⟩
                case measure => simp [intOf]; omega
            · have dq : (X2 == P2) = false := beq_eq_false_iff_ne.2 eq
              clear s1 s2 eq ql
              by_cases ec : X2 = c0
              · have dc : (X2 == c0) = true := by rw [ec]; simp
                have FL := FL.out
                rw [if_pos ec] at FL
                have FL := Lib.hid FL
                clear ec
                go_wp2
                go_quiet (fail)
                go_wp2
                go_quiet (fail)
                go_wp2
                go_roundw
                case rel => exact ⟨r + 1 + 1, by omega, by go_num, by rw [FL.out]; go_num, by first | exact BQ.out | exact below_drewN BQ.out _ | exact below_drewN (below_drewN BQ.out _) _⟩
                case measure => simp [intOf]; omega
              · have dc : (X2 == c0) = false := beq_eq_false_iff_ne.2 ec
                have FL := FL.out
                rw [if_neg ec, Nat.add_zero] at FL
                have FL := Lib.hid FL
                clear ec
                go_wp2
                go_quiet (fail)
                go_wp2
                go_quiet (fail)
                go_wp2
                go_roundw
                case rel => exact ⟨r + 1 + 1, by omega, by go_num, by simp only [FL.out, Nat.add_zero], by first | exact BQ.out | exact below_drewN BQ.out _ | exact below_drewN (below_drewN BQ.out _) _⟩
                case measure => simp [intOf]; omega
        · have hqn : q = n1 := by omega
          have EC : ((l.take q).filter (fun x => x.2 == c0)).length = nb := by rw [hqn, HN1.out, List.take_length, ← EB.out, HNB.out]
          have SM : Hid (Calls Try.prog 14 #[.slice a6 nb c6, .slice a5 nb c5] wr fun e w' => e = .returned (.bool true) ∧ Below wr.heap.size wr w') := by
            have g6 := (G6.out.below BR.out).below BQ.out
            have g5 := Hl.take GQ.out nb (by rw [← HN1.out]; exact nbl)
            rw [show l.take nb = bst l from by rw [HNB.out]; exact Q2.out] at g5
            rw [← HNB.out] at g6
            exact same_yes _ _ (bst l) wr g6 g5 (by rw [← HNB.out]; omega)
          have BZ := Lib.hid (BW.out.trans (BQ.out.mono BW.out.size))
          have nbc : nb ≤ c5 := by omega
          rw [EC]
          clear EC cb hqn
          go_wp2_with (first
            | (go_at_call 14; (with_reducible refine SM.out.mono ?_); rintro e w9 ⟨rfl, b9⟩; have B9 := Lib.hid (BZ.out.trans (b9.mono BZ.out.size)); clear b9))
          go_ret
          exact ⟨rfl, B9.out⟩
theorem walk_lexiconAll (W : World) (v : Value) (l : List Ed.Bs) (u : Tx W v l) (x : l.length ≤ 9223372036854775807) (_ : ∀ x ∈ l, x.length ≤ 9223372036854775807) (a : ByteArray) (ha : a.size ≤ maxLen) (c : Ed.Cs) (m : Int) (_ : -9223372036854775808 ≤ m) (_ : m ≤ 9223372036854775807) :
    Calls Try.prog 3 #[v, .string a, cv c, .int .i64 m] W fun e w' => e = .returned (.bool true) ∧ Below W.heap.size W w' := by
  have e : (.string a : Value) = sb a.data.toList := rfl
  rw [e]
  have la : a.data.toList.length ≤ 9223372036854775807 := by rw [Ed.list_size]; unfold maxLen at ha; omega
  by_cases hf : Lx.few l = true
  · by_cases hp : a.data.toList.length ≤ 60
    · by_cases hc : Ed.Rc c
      · by_cases hz : Lx.wrong [] l = 0
        · exact all_any v l _ c m W u x hp hf hc hz
        · exact all_wrong v l _ c m W u x hp hf hc hz
      · exact all_bad v l _ c m W u x hp hf hc
    · exact all_no v l _ c m W u x la (Or.inr (by omega))
  · exact all_no v l _ c m W u x la (Or.inl (by simpa using hf))
end Go.Proofs.Ytkhgjjbiifbfgaa
