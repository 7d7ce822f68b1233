/- FoldBoth's walk. -/
import Derived.Test.YtljfbdiiecohpaaFq
import Derived.Test.YtljfbdiiecohpaaCFTwice
import Derived.Deep.RegionHeld3
import Derived.Deep.DeepCutAuto
namespace Go.Proofs.Ytljfbdiiecohpaa
open Go.RowKit Go.Lib

/-- A row in a box. -/
def Bx3 (p : Nat) (r : Fo.Rd) (w : World) : Prop := w.cell? ⟨p, 0, none⟩ = some (.int .u8 r.k) ∧ w.cell? ⟨p, 1, none⟩ = some (.string ⟨r.lg.toArray⟩) ∧ w.cell? ⟨p, 2, none⟩ = some (.string ⟨r.sh.toArray⟩)
theorem Bx3.step {p : Nat} {r : Fo.Rd} {w w' : World} (h : Bx3 p r w) (b : Below w.heap.size w w') : Bx3 p r w' := ⟨below_cell b h.1, below_cell b h.2.1, below_cell b h.2.2⟩
theorem Bx3.made (w : World) (r : Fo.Rd) : Bx3 w.heap.size r (w.alloc (.cells #[.int .u8 r.k, .string ⟨r.lg.toArray⟩, .string ⟨r.sh.toArray⟩] 30)) :=
  ⟨cell_at _ _ _ 0 _ _ rfl rfl, cell_at _ _ _ 1 _ _ rfl rfl, cell_at _ _ _ 2 _ _ rfl rfl⟩
/-- What the law asks of a row. -/
structure RowOk (r : Fo.Rd) : Prop where
  k : 1 ≤ r.k ∧ r.k ≤ 5
  l1 : (Fo.longs r.k r.sh).contains r.lg = true
  l2 : (Fo.longs r.k r.lg).contains r.lg = true
  l3 : (Fo.longs 0 r.sh).contains r.lg = true
  s1 : Fo.same r.k r.lg r.sh = true
  s2 : Fo.same 0 r.sh r.lg = true
  k1 : ((((Fo.kinds r.lg : Nat) : Int) / 2 ^ min r.k 8).tmod 2 != 1) = false
  k2 : ((((Fo.kinds r.sh : Nat) : Int) / 2 ^ min r.k 8).tmod 2 != 1) = false
  r1 : Fo.fold r.lg = r.lg
  r2 : Fo.fold r.sh = r.sh
  n1 : r.lg.length ≤ 100
  n2 : r.sh.length ≤ 100
theorem row_facts (r : Fo.Rd) (h : r ∈ Fo.tbl) : RowOk r := by
  obtain ⟨a1, a2, a3, _⟩ := Fo.row_has h (Fo.isK_own r)
  obtain ⟨b1, _, _, b4⟩ := Fo.row_has (k := 0) h (Fo.isK_any r)
  obtain ⟨c1, c2⟩ := Fo.row_kinds r h
  obtain ⟨d1, d2, d3, d4⟩ := Fo.row_right r h
  exact ⟨Fo.tbl_k r h, a1, a2, b1, a3, b4, c1, c2, d1, d2, d3, d4⟩
theorem longs_zero (x : Fo.Bs) (w : World) : Calls Try.prog 22 #[.int .u8 0, .string ⟨x.toArray⟩] w fun e w' => ∃ v, e = .returned v ∧ Otx w w' v (Fo.longs 0 x) := longs_any 0 x w
theorem same_zero (a b : Fo.Bs) (w : World) : Calls Try.prog 20 #[.int .u8 0, .string ⟨a.toArray⟩, .string ⟨b.toArray⟩] w fun e w' => e = .returned (.bool (Fo.same 0 a b)) ∧ Below w.heap.size w w' := same_any 0 a b w
theorem has_true (u : Value) (l : List Fo.Bs) (x : Fo.Bs) (w : World) (h : Tx w u l) (hl : l.length ≤ 40) (hx : l.contains x = true) : Calls Try.prog 21 #[u, .string ⟨x.toArray⟩] w fun e w' => e = .returned (.bool true) ∧ Below w.heap.size w w' := by
  have := has_any u l x w h (by omega)
  rw [hx] at this
  exact this
set_option maxRecDepth 100000 in
set_option maxHeartbeats 12800000 in
theorem both_any (kd : Nat) (a b : Fo.Bs) (w : World) (hk : kd < 256) (ha : a.length ≤ 9223372036854775807) (hb : b.length ≤ 9223372036854775807) : Calls Try.prog 7 #[.int .u8 kd, .string ⟨a.toArray⟩, .string ⟨b.toArray⟩] w fun e w' => e = .returned (.bool true) ∧ Below w.heap.size w w' := by
  have AW := Lib.hid (awake5_any w)
  by_cases h1 : a.length ≤ 2000
  · by_cases h2 : b.length ≤ 2000
    · have S1 := Lib.hid (fun w => same_any kd a b w)
      have S2 := Lib.hid (fun w => same_any kd b a w)
      have S3 := Lib.hid (fun w => same_any kd a a w)
      rw [← Fo.same_symm kd a b] at S2
      rw [Fo.same_self] at S3
      have FAR := Lib.hid (fun h => Fo.same_far (k := kd) a b h)
      obtain ⟨q, hq⟩ : ∃ q, q = Fo.same kd a b := ⟨_, rfl⟩
      rw [← hq] at S1 S2 FAR
      have TB := Lib.hid table_any
      have SH := Lib.hid (fun w => short_any kd a w)
      clear hq
      go_enter Try.func7, Try.ntmps7
      go_upto_region 5 with (go_at_call 12; with_reducible refine AW.out.mono ?_; rintro e w2 ⟨rfl, b2⟩; have B := Lib.hid b2; clear b2)
      go_cut [51] (fun s wx => s = .bool false ∧ Below w.heap.size w wx)
      case first =>
        by_cases k5 : 5 < kd
        · have far := FAR.out k5
          have k6 : (5 : Int) < kd := by omega
          by_cases hab : a = b
          · obtain rfl : q = true := by rw [far, hab, beq_self_eq_true]
            have ab : (a == b) = true := by rw [hab, beq_self_eq_true]
            clear far hab FAR k5
            go_wp2_with (first
              | (go_at_call 20; with_reducible refine (S1.out _).mono ?_; rintro e w2 ⟨rfl, b2⟩; have B := Lib.hid (B.out.trans (b2.mono B.out.size)); clear b2)
              | (go_at_call 20; with_reducible refine (S2.out _).mono ?_; rintro e w2 ⟨rfl, b2⟩; have B := Lib.hid (B.out.trans (b2.mono B.out.size)); clear b2)
              | (go_at_call 20; with_reducible refine (S3.out _).mono ?_; rintro e w2 ⟨rfl, b2⟩; have B := Lib.hid (B.out.trans (b2.mono B.out.size)); clear b2))
            go_meet
            exact ⟨rfl, B.out⟩
          · obtain rfl : q = false := by rw [far]; exact beq_eq_false_iff_ne.2 hab
            have ab : (a == b) = false := beq_eq_false_iff_ne.2 hab
            clear far hab FAR k5
            go_wp2_with (first
              | (go_at_call 20; with_reducible refine (S1.out _).mono ?_; rintro e w2 ⟨rfl, b2⟩; have B := Lib.hid (B.out.trans (b2.mono B.out.size)); clear b2)
              | (go_at_call 20; with_reducible refine (S2.out _).mono ?_; rintro e w2 ⟨rfl, b2⟩; have B := Lib.hid (B.out.trans (b2.mono B.out.size)); clear b2)
              | (go_at_call 20; with_reducible refine (S3.out _).mono ?_; rintro e w2 ⟨rfl, b2⟩; have B := Lib.hid (B.out.trans (b2.mono B.out.size)); clear b2))
            go_meet
            exact ⟨rfl, B.out⟩
        · have k6 : ¬ (5 : Int) < kd := by omega
          clear FAR k5
          go_wp2_with (first
            | (go_at_call 20; with_reducible refine (S1.out _).mono ?_; rintro e w2 ⟨rfl, b2⟩; have B := Lib.hid (B.out.trans (b2.mono B.out.size)); clear b2)
            | (go_at_call 20; with_reducible refine (S2.out _).mono ?_; rintro e w2 ⟨rfl, b2⟩; have B := Lib.hid (B.out.trans (b2.mono B.out.size)); clear b2)
            | (go_at_call 20; with_reducible refine (S3.out _).mono ?_; rintro e w2 ⟨rfl, b2⟩; have B := Lib.hid (B.out.trans (b2.mono B.out.size)); clear b2))
          go_meet
          exact ⟨rfl, B.out⟩
      case rest =>
        obtain ⟨rfl, b0⟩ := hcut
        have B := Lib.hid b0
        clear b0 FAR S1 S2 S3
        go_wp2_with (go_at_call 9; (with_reducible refine (TB.out _).mono ?_); rintro e w3 ⟨v, rfl, hv, b3⟩; have B3 := Lib.hid (B.out.trans (b3.mono B.out.size)); have HR := Lib.hid hv; obtain ⟨a8, c8, rfl, -⟩ := hv; clear b3)
        obtain ⟨L, hL⟩ : ∃ L, L = Fo.tbl := ⟨_, rfl⟩
        rw [← hL] at HR ⊢
        obtain ⟨n, hn⟩ : ∃ n, n = L.length := ⟨_, rfl⟩
        have nb : n ≤ 40 := by rw [hn, hL, Fo.tbl_len]; omega
        rw [← hn] at HR ⊢
        have HN := Lib.hid hn
        have RF := Lib.hid (fun r (hr : r ∈ L) => row_facts r (by rw [← hL]; exact hr))
        clear hL hn TB
        go_loopw [8] (fun i wr => ∃ k : Nat, k ≤ n ∧ i = .int .i64 k ∧ Hid (Below w3.heap.size w3 wr)) (fun i _ => n - (intOf i).toNat)
        case atStart => exact ⟨0, Nat.zero_le _, rfl, Below.refl _ _⟩
        case round =>
          obtain ⟨k, hk, rfl, K⟩ := hrel
          by_cases hlt : k < n
          · have hkl : k < L.length := by rw [← HN.out]; exact hlt
            obtain ⟨r, hr⟩ : ∃ r, r = L[k] := ⟨_, rfl⟩
            have F := RF.out r (by rw [hr]; exact List.getElem_mem hkl)
            obtain ⟨x8, y8, e1, h1'⟩ := HR.out.below K.out
            obtain ⟨rfl, -, rfl⟩ : x8 = a8 ∧ L.length = n ∧ y8 = c8 := by cases e1; exact ⟨rfl, HN.out.symm, rfl⟩
            obtain ⟨bb, off, rfl, h2'⟩ := h1'.resolve_left (by intro e; rw [e] at hkl; simp at hkl)
            obtain ⟨f0, f1, f2⟩ := h2' k hkl
            rw [← hr] at f0 f1 f2
            clear h1' h2' hr e1
            have G := Lib.hid F
            clear F
            obtain ⟨A1, hA1⟩ : ∃ A, A = Fo.longs r.k r.sh := ⟨_, rfl⟩
            obtain ⟨A2, hA2⟩ : ∃ A, A = Fo.longs r.k r.lg := ⟨_, rfl⟩
            obtain ⟨A3, hA3⟩ : ∃ A, A = Fo.longs 0 r.sh := ⟨_, rfl⟩
            have L1 := Lib.hid (fun w => longs_any r.k r.sh w)
            have L2 := Lib.hid (fun w => longs_any r.k r.lg w)
            have L3 := Lib.hid (fun w => longs_zero r.sh w)
            rw [← hA1] at L1
            rw [← hA2] at L2
            rw [← hA3] at L3
            have H1 := Lib.hid (fun u w (h : Tx w u A1) => has_true u A1 r.lg w h (by rw [hA1]; exact Fo.longs_len _ _) (by rw [hA1]; exact G.out.l1))
            have H2 := Lib.hid (fun u w (h : Tx w u A2) => has_true u A2 r.lg w h (by rw [hA2]; exact Fo.longs_len _ _) (by rw [hA2]; exact G.out.l2))
            have H3 := Lib.hid (fun u w (h : Tx w u A3) => has_true u A3 r.lg w h (by rw [hA3]; exact Fo.longs_len _ _) (by rw [hA3]; exact G.out.l3))
            have S4 := Lib.hid (fun w => same_any r.k r.lg r.sh w)
            have S5 := Lib.hid (fun w => same_zero r.sh r.lg w)
            rw [G.out.s1] at S4
            rw [G.out.s2] at S5
            clear hA1 hA2 hA3
            go_upto_region 12 with fail
            go_cut [109] (fun s wx => s = .bool false ∧ Bx3 wr.heap.size r wx ∧ Below w3.heap.size w3 wx)
            case first =>
              have X0 : Bx3 wr.heap.size r (wr.alloc (.cells #[.int .u8 r.k, .string ⟨r.lg.toArray⟩, .string ⟨r.sh.toArray⟩] 30)) := Bx3.made wr r
              have BW := K.out.alloc K.out.size (.cells #[.int .u8 r.k, .string ⟨r.lg.toArray⟩, .string ⟨r.sh.toArray⟩] 30)
              obtain ⟨W, hW⟩ : ∃ W, W = wr.alloc (.cells #[.int .u8 r.k, .string ⟨r.lg.toArray⟩, .string ⟨r.sh.toArray⟩] 30) := ⟨_, rfl⟩
              rw [← hW] at X0 BW ⊢
              obtain ⟨p, hp⟩ : ∃ p, p = wr.heap.size := ⟨_, rfl⟩
              rw [← hp] at X0 ⊢
              have HP := Lib.hid hp
              clear hW hp
              obtain ⟨g0, g1, g2⟩ : Bx3 p r W.drew := X0
              have gb : Below w3.heap.size w3 W.drew := BW.drew
              go_region_held3 (fun w' => w'.cell? ⟨p, 0, none⟩ = some (.int .u8 r.k) ∧ w'.cell? ⟨p, 1, none⟩ = some (.string ⟨r.lg.toArray⟩) ∧ w'.cell? ⟨p, 2, none⟩ = some (.string ⟨r.sh.toArray⟩) ∧ Below w3.heap.size w3 w') (first | (refine ⟨?_, ?_, ?_, ?_⟩ <;> assumption) | skip)
                (first
                  | (go_at_call 22; (with_reducible refine (L1.out _).mono ?_); rintro e w5 ⟨v, rfl, O⟩; have T := Lib.hid O.tx; have b5 := O.bl; clear O; have g0 := below_cell b5 g0; have g1 := below_cell b5 g1; have g2 := below_cell b5 g2; have gb := gb.trans (b5.mono gb.size); clear b5)
                  | (go_at_call 22; (with_reducible refine (L2.out _).mono ?_); rintro e w5 ⟨v, rfl, O⟩; have T := Lib.hid O.tx; have b5 := O.bl; clear O; have g0 := below_cell b5 g0; have g1 := below_cell b5 g1; have g2 := below_cell b5 g2; have gb := gb.trans (b5.mono gb.size); clear b5)
                  | (go_at_call 22; (with_reducible refine (L3.out _).mono ?_); rintro e w5 ⟨v, rfl, O⟩; have T := Lib.hid O.tx; have b5 := O.bl; clear O; have g0 := below_cell b5 g0; have g1 := below_cell b5 g1; have g2 := below_cell b5 g2; have gb := gb.trans (b5.mono gb.size); clear b5)
                  | (go_at_call 21; (with_reducible refine (H1.out _ _ T.out).mono ?_); rintro e w5 ⟨rfl, b5⟩; have g0 := below_cell b5 g0; have g1 := below_cell b5 g1; have g2 := below_cell b5 g2; have gb := gb.trans (b5.mono gb.size); clear b5)
                  | (go_at_call 21; (with_reducible refine (H2.out _ _ T.out).mono ?_); rintro e w5 ⟨rfl, b5⟩; have g0 := below_cell b5 g0; have g1 := below_cell b5 g1; have g2 := below_cell b5 g2; have gb := gb.trans (b5.mono gb.size); clear b5)
                  | (go_at_call 21; (with_reducible refine (H3.out _ _ T.out).mono ?_); rintro e w5 ⟨rfl, b5⟩; have g0 := below_cell b5 g0; have g1 := below_cell b5 g1; have g2 := below_cell b5 g2; have gb := gb.trans (b5.mono gb.size); clear b5)
                  | (go_at_call 20; (with_reducible refine (S4.out _).mono ?_); rintro e w5 ⟨rfl, b5⟩; have g0 := below_cell b5 g0; have g1 := below_cell b5 g1; have g2 := below_cell b5 g2; have gb := gb.trans (b5.mono gb.size); clear b5)
                  | (go_at_call 20; (with_reducible refine (S5.out _).mono ?_); rintro e w5 ⟨rfl, b5⟩; have g0 := below_cell b5 g0; have g1 := below_cell b5 g1; have g2 := below_cell b5 g2; have gb := gb.trans (b5.mono gb.size); clear b5))
              go_wp2_with fail
              obtain rfl := HP.out
              go_meet
              exact ⟨rfl, ⟨g0, g1, g2⟩, gb⟩
            case rest =>
              obtain ⟨rfl, X1, b6⟩ := hcut
              clear L1 L2 L3 H1 H2 H3 S4 S5
              have K1 := Lib.hid (fun w => kinds_any r.lg w)
              have K2 := Lib.hid (fun w => kinds_any r.sh w)
              have R1 := Lib.hid (fun w => right_any r.lg w (by have := G.out.n1; omega))
              have R2 := Lib.hid (fun w => right_any r.sh w (by have := G.out.n2; omega))
              rw [G.out.r1, beq_self_eq_true] at R1
              rw [G.out.r2, beq_self_eq_true] at R2
              have q1 := G.out.k1
              have q2 := G.out.k2
              go_upto_region 14 with fail
              go_cut [139] (fun s wx => s = .bool false ∧ Below w3.heap.size w3 wx)
              case first =>
                obtain ⟨p, hp⟩ : ∃ p, p = wr.heap.size := ⟨_, rfl⟩
                rw [← hp] at X1 ⊢
                obtain ⟨g0, g1, g2⟩ : Bx3 p r wc.drew := X1
                have gb : Below w3.heap.size w3 wc.drew := b6.drew
                have HP := Lib.hid hp
                clear hp b6
                go_region_held3 (fun w' => w'.cell? ⟨p, 0, none⟩ = some (.int .u8 r.k) ∧ w'.cell? ⟨p, 1, none⟩ = some (.string ⟨r.lg.toArray⟩) ∧ w'.cell? ⟨p, 2, none⟩ = some (.string ⟨r.sh.toArray⟩) ∧ Below w3.heap.size w3 w') (first | (refine ⟨?_, ?_, ?_, ?_⟩ <;> assumption) | skip)
                  (first
                    | (go_at_call 23; (with_reducible refine (K1.out _).mono ?_); rintro e w5 ⟨rfl, b5⟩; have g0 := below_cell b5 g0; have g1 := below_cell b5 g1; have g2 := below_cell b5 g2; have gb := gb.trans (b5.mono gb.size); clear b5)
                    | (go_at_call 23; (with_reducible refine (K2.out _).mono ?_); rintro e w5 ⟨rfl, b5⟩; have g0 := below_cell b5 g0; have g1 := below_cell b5 g1; have g2 := below_cell b5 g2; have gb := gb.trans (b5.mono gb.size); clear b5)
                    | (go_at_call 15; (with_reducible refine (R1.out _).mono ?_); rintro e w5 ⟨rfl, b5⟩; have g0 := below_cell b5 g0; have g1 := below_cell b5 g1; have g2 := below_cell b5 g2; have gb := gb.trans (b5.mono gb.size); clear b5)
                    | (go_at_call 15; (with_reducible refine (R2.out _).mono ?_); rintro e w5 ⟨rfl, b5⟩; have g0 := below_cell b5 g0; have g1 := below_cell b5 g1; have g2 := below_cell b5 g2; have gb := gb.trans (b5.mono gb.size); clear b5))
                go_wp2_with fail
                obtain rfl := HP.out
                go_meet
                exact ⟨rfl, gb⟩
              case rest =>
                obtain ⟨rfl, b7⟩ := hcut
                have K7 := Lib.hid b7
                clear b7
                go_wp2
                go_roundw
                case rel => exact ⟨k + 1, by omega, by go_num, K7⟩
                case measure => simp [intOf]; omega
          · have E1 := Lib.hid (fun h => Fo.short_none (k := kd) (a := a) h)
            have E2 := Lib.hid (fun h => Fo.short_some (k := kd) (a := a) h)
            obtain ⟨x, hx⟩ : ∃ x, x = (Fo.short kd a).1 := ⟨_, rfl⟩
            obtain ⟨y, hy⟩ : ∃ y, y = (Fo.short kd a).2 := ⟨_, rfl⟩
            rw [← hx] at E1 E2 SH
            rw [← hy] at E1 E2 SH
            clear hx hy RF HR
            cases y with
            | false =>
              obtain rfl : x = [] := E1.out rfl
              clear E1 E2
              go_wp2_with (go_at_call 24; (with_reducible refine (SH.out _).mono ?_); rintro e w5 ⟨rfl, b5⟩; have K := Lib.hid (K.out.trans (b5.mono K.out.size)); clear b5)
              go_ret
              exact ⟨rfl, B3.out.trans (K.out.mono B3.out.size)⟩
            | true =>
              obtain ⟨e1, e2⟩ := E2.out rfl
              have LA := Lib.hid (fun w => longs_any kd x w)
              have HA := Lib.hid (fun u w (h : Tx w u (Fo.longs kd x)) => has_true u (Fo.longs kd x) a w h (Fo.longs_len _ _) e1)
              have SA := Lib.hid (fun w => same_any kd x a w)
              rw [e2] at SA
              clear E1 E2 e1 e2
              go_wp2_with (first
                | (go_at_call 24; (with_reducible refine (SH.out _).mono ?_); rintro e w5 ⟨rfl, b5⟩; have K := Lib.hid (K.out.trans (b5.mono K.out.size)); clear b5)
                | (go_at_call 22; (with_reducible refine (LA.out _).mono ?_); rintro e w5 ⟨v, rfl, O⟩; have T := Lib.hid O.tx; have b5 := O.bl; have K := Lib.hid (K.out.trans (b5.mono K.out.size)); clear b5 O)
                | (go_at_call 21; (with_reducible refine (HA.out _ _ T.out).mono ?_); rintro e w5 ⟨rfl, b5⟩; have K := Lib.hid (K.out.trans (b5.mono K.out.size)); clear b5)
                | (go_at_call 20; (with_reducible refine (SA.out _).mono ?_); rintro e w5 ⟨rfl, b5⟩; have K := Lib.hid (K.out.trans (b5.mono K.out.size)); clear b5))
              go_ret
              exact ⟨rfl, B3.out.trans (K.out.mono B3.out.size)⟩
    · have h3 : (2000 : Int) < (b.length : Int) := by omega
      have h4 : ¬ (2000 : Int) < (a.length : Int) := by omega
      clear h1 h2
      go_enter Try.func7, Try.ntmps7
      go_wp2_with (go_at_call 12; with_reducible refine AW.out.mono ?_; rintro e w2 ⟨rfl, b2⟩; have B := Lib.hid b2; clear b2)
      go_ret
      exact ⟨rfl, B.out⟩
  · have h3 : (2000 : Int) < (a.length : Int) := by omega
    clear h1
    go_enter Try.func7, Try.ntmps7
    go_wp2_with (go_at_call 12; with_reducible refine AW.out.mono ?_; rintro e w2 ⟨rfl, b2⟩; have B := Lib.hid b2; clear b2)
    go_ret
    exact ⟨rfl, B.out⟩
theorem walk_foldBoth (w : World) (k : Int) (k0 : 0 ≤ k) (k1 : k ≤ 255) (a : ByteArray) (ha : a.size ≤ maxLen) (b : ByteArray) (hb : b.size ≤ maxLen) : Calls Try.prog 7 #[.int .u8 k, .string a, .string b] w fun e w' => e = .returned (.bool true) ∧ Below w.heap.size w w' := by
  have := both_any k.toNat a.data.toList b.data.toList w (by omega) (by rw [Array.length_toList]; unfold maxLen at ha; exact ha) (by rw [Array.length_toList]; unfold maxLen at hb; exact hb)
  rw [← str_is a, ← str_is b, show ((k.toNat : Nat) : Int) = k by omega] at this
  exact this
end Go.Proofs.Ytljfbdiiecohpaa
