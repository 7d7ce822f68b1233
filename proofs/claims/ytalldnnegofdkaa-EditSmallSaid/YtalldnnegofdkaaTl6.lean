/- The reference's Path. -/
import Derived.Test.YtalldnnegofdkaaTl5
import Derived.Deep.LoopGhost
import Derived.WalkMore
namespace Go.Proofs.Ytalldnnegofdkaa
open Go.RowKit Go.Shelf

theorem Ro.quiet {w0 w w' : World} {v : Value} {l : List Ed.Op} (h : Ro w0 w v l) (b : Below w.heap.size w w') : Ro w0 w' v l := ⟨own_quiet h.own b, h.bl.trans (b.mono h.bl.size)⟩
theorem push_cells2 (w : World) (o : Obj) (y : Ed.Op) (t : TypeId) (K B : Int) (hk : ((y.k : Nat) : Int) = K) (hb : ((y.b.toNat : Nat) : Int) = B) : ∀ j u, (ocells y)[j]? = some u → ((w.alloc o).alloc (.cells #[.int .u8 K, .int .u8 B] t)).cell? ⟨w.heap.size + 1, j, none⟩ = some u := by
  intro q z hz
  subst hk
  subst hb
  have h := push_cells (w.alloc o) y t q z hz
  rw [show (w.alloc o).heap.size = w.heap.size + 1 by simp] at h
  exact h
theorem Ed.byte_at (l : Ed.Bs) (a : ByteArray) (h : a = ⟨l.toArray⟩) (j : Nat) (hj : j < a.size) : a[j] = (l.drop j).headD 0 := by
  subst h
  have hl : j < l.length := by rw [← Ed.size_is l]; exact hj
  rw [List.drop_eq_getElem_cons hl]
  rfl

set_option maxRecDepth 100000 in
set_option maxHeartbeats 3200000 in
theorem rpath_ok (c : Ed.Cs) (hc : Ed.Rc c) (xs ys : Ed.Bs) (hx : xs.length ≤ 60) (hy : ys.length ≤ 60) (w : World) : Calls Try.prog 30 #[sb xs, sb ys, cv c] w fun e w' => ∃ v, e = .returned (.tuple #[v, .int .i64 (Ed.ds c xs ys), .int .i64 0]) ∧ Ro w w' v (Ed.path c xs ys) := by
  have CK := rmay_any c xs ys
  rw [Ed.ckv_ok hc hx hy] at CK
  have CH := Lib.hid CK
  have TA := Lib.hid (fun W => rtable_any c hc xs ys hx hy W)
  obtain ⟨a, hxa⟩ : ∃ a : ByteArray, a = ⟨xs.toArray⟩ := ⟨_, rfl⟩
  obtain ⟨b, hxb⟩ : ∃ b : ByteArray, b = ⟨ys.toArray⟩ := ⟨_, rfl⟩
  have hla : xs.length = a.size := by rw [hxa]; exact (Ed.size_is xs).symm
  have hlb : ys.length = b.size := by rw [hxb]; exact (Ed.size_is ys).symm
  have LA := Lib.hid hla
  have LB := Lib.hid hlb
  have e1 : sb xs = .string a := by rw [hxa]
  have e2 : sb ys = .string b := by rw [hxb]
  rw [e1, e2] at CH TA ⊢
  rw [hla, hlb] at TA
  rw [hla] at hx
  rw [hlb] at hy
  have HXA := Lib.hid hxa
  have HXB := Lib.hid hxb
  have HC := Lib.hid hc
  obtain ⟨D, hD⟩ : ∃ D : Nat → Nat → Int, D = fun i j => Ed.ds c (xs.drop i) (ys.drop j) := ⟨_, rfl⟩
  have D0 : Ed.ds c xs ys = D 0 0 := by rw [hD]; rfl
  rw [← hD] at TA
  rw [D0]
  have HD := Lib.hid hD
  have B0 := Lib.hid (show Below w.heap.size w (w.alloc (.cells #[.int .i64 c.ins, .int .i64 c.del, .int .i64 c.chg, .int .i64 c.swp] 58)) from (Below.refl _ _).alloc (Nat.le_refl _) _)
  have K0 : Hid (Cbx (w.alloc (.cells #[.int .i64 c.ins, .int .i64 c.del, .int .i64 c.chg, .int .i64 c.swp] 58)) w.heap.size c) := heap_alloc_new _ _
  clear CK e1 e2 hxa hxb hc hla hlb hD D0
  go_enter Try.func30, Try.ntmps30
  go_wp2_with (first
    | (go_at_call 45; (with_reducible refine (CH.out _).mono ?_); rintro e w1 ⟨rfl, b1⟩; have K1 := Lib.hid (K0.out.quiet b1); have B1 := Lib.hid (B0.out.trans (b1.mono B0.out.size)); obtain ⟨x0, x1, x2, x3⟩ := K1.out.cells; clear b1)
    | (go_at_call 46; (with_reducible refine (TA.out _).mono ?_); rintro e w2 ⟨rfl, t2⟩; have T2 := Lib.hid t2; clear t2 x0 x1 x2 x3))
  have K2 : Hid (Cbx w2 w.heap.size c) := K1.out.quiet T2.out.bl
  have B2 := Lib.hid (B1.out.trans (T2.out.bl.mono B1.out.size))
  obtain ⟨q, hq⟩ : ∃ q, q = w1.heap.size + 1 := ⟨_, rfl⟩
  rw [← hq] at T2 ⊢
  clear hq K1 B1 K0 B0 TA CH
  go_loopw [11, 12, 13] (fun v i j wr => ∃ i' j' : Nat, i = .int .i64 i' ∧ j = .int .i64 j' ∧ i' ≤ a.size ∧ j' ≤ b.size ∧ Hid (∃ l, Ro w2 wr v l ∧ l ++ Ed.path c (xs.drop i') (ys.drop j') = Ed.path c xs ys)) (fun _ i j _ => a.size + b.size - (intOf i).toNat - (intOf j).toNat)
  case atStart => exact ⟨0, 0, rfl, rfl, Nat.zero_le _, Nat.zero_le _, [], Ro.start (Below.refl _ _), rfl⟩
  case round =>
    obtain ⟨i, j, rfl, rfl, hi, hj, K⟩ := hrel
    by_cases hin : i < a.size ∨ j < b.size
    · have N0 : Ed.nx c (xs.drop i) (ys.drop j) ≠ 0 := Ed.nx_ne HC.out (by rw [List.length_drop, LA.out]; omega) (by rw [List.length_drop, LB.out]; omega) (by
        rcases hin with h | h
        · exact Or.inl (fun e => by have := congrArg List.length e; rw [List.length_drop, LA.out] at this; simp at this; omega)
        · exact Or.inr (fun e => by have := congrArg List.length e; rw [List.length_drop, LB.out] at this; simp at this; omega))
      obtain ⟨N, hN⟩ : ∃ N, N = Ed.nx c (xs.drop i) (ys.drop j) := ⟨_, rfl⟩
      have NG := Lib.hid (Ed.nx_go N0)
      have NL : Hid (∀ k, Ed.go c (xs.drop i) (ys.drop j) k = true → Ed.nx c (xs.drop i) (ys.drop j) ≤ k) := fun k h => (Ed.nx_first h).1
      have PS := Lib.hid (Ed.path_step (c := c) N0)
      have N5 : 1 ≤ N ∧ N ≤ 5 := by rw [hN]; exact Ed.ft_kind (Ed.go_iff.1 NG.out).1
      rw [← hN] at NG NL PS
      have hc1 : (decide ((i : Int) < a.size) || decide ((j : Int) < b.size)) = true := by
        rcases hin with h | h
        · rw [decide_eq_true (show (i : Int) < a.size by omega)]; rfl
        · rw [decide_eq_true (show (j : Int) < b.size by omega), Bool.or_true]
      obtain ⟨wo, hwo⟩ : ∃ x, x = wr := ⟨_, rfl⟩
      rw [← hwo] at K ⊢
      obtain ⟨v, hv⟩ : ∃ x, x = u11 := ⟨_, rfl⟩
      subst hv
      clear hwo N0 hN
      go_upto_region 7 with fail
      go_cut [40] (fun s wx => s = .bool true ∧ wx = wo)
      case first =>
        by_cases h1 : (i : Int) < a.size
        · clear hc1 hin
          go_wp2
          go_meet
          case rel => exact ⟨rfl, rfl⟩
        · have h2 : (j : Int) < b.size := by omega
          clear hc1 hin
          go_wp2
          go_meet
          case rel => exact ⟨rfl, rfl⟩
      case rest =>
        obtain ⟨rfl, rfl⟩ := hcut
        clear hc1 hin
        go_wp2
        go_loopw [11, 12, 13, 14] (fun s11 s12 s13 s14 wz => s11 = v ∧ s12 = .int .i64 i ∧ s13 = .int .i64 j ∧ ∃ k : Nat, s14 = .int .u8 k ∧ 1 ≤ k ∧ k ≤ N ∧ Hid (Below wc.heap.size wc wz)) (fun _ _ _ s14 _ => 6 - (intOf s14).toNat)
        case atStart => exact ⟨rfl, rfl, rfl, 1, rfl, Nat.le_refl _, N5.1, Below.refl _ _⟩
        case round =>
          obtain ⟨rfl, rfl, rfl, k, rfl, hk1, hkN, BW⟩ := hrel
          have hk5 : k ≤ 5 := by omega
          have BC : Hid (Below w2.heap.size w2 wc) := by obtain ⟨l, ho, _⟩ := K.out; exact ho.bl
          have BR := Lib.hid (BC.out.trans (BW.out.mono BC.out.size))
          obtain ⟨x0, x1, x2, x3⟩ := (K2.out.quiet BR.out).cells
          have FI : Hid (∀ W, Calls Try.prog 47 #[.int .u8 (k : Nat), .string (a.extract i a.size), .string (b.extract j b.size), cv c] W fun e w' => e = .returned (.tuple #[.bool (Ed.ft k (xs.drop i) (ys.drop j)), .int .i64 (Ed.tk k), .int .i64 (Ed.wr k), .int .i64 (Ed.co c k)]) ∧ Below W.heap.size W w') := fun W => by
            rw [Ed.rest_is xs a i HXA.out, Ed.rest_is ys b j HXB.out]
            exact rfits_any k ⟨hk1, hk5⟩ _ _ c W
          obtain ⟨t, ht⟩ : ∃ t, t = Ed.tk k := ⟨_, rfl⟩
          obtain ⟨u, hu⟩ : ∃ u, u = Ed.wr k := ⟨_, rfl⟩
          obtain ⟨f, hf⟩ : ∃ f, f = Ed.ft k (xs.drop i) (ys.drop j) := ⟨_, rfl⟩
          obtain ⟨co, hco⟩ : ∃ co, co = Ed.co c k := ⟨_, rfl⟩
          rw [← ht, ← hu, ← hf, ← hco] at FI
          have HT := Lib.hid ht
          have HU := Lib.hid hu
          have HF := Lib.hid hf
          have HCO := Lib.hid hco
          have q3 : (i : Int) ≤ a.size := by omega
          have q4 : (j : Int) ≤ b.size := by omega
          clear ht hu hf hco
          go_upto_region 9 with fail
          have x0 : wr.drew.cell? ⟨w.heap.size, 0, none⟩ = some (.int .i64 c.ins) := x0
          have x1 : wr.drew.cell? ⟨w.heap.size, 1, none⟩ = some (.int .i64 c.del) := x1
          have x2 : wr.drew.cell? ⟨w.heap.size, 2, none⟩ = some (.int .i64 c.chg) := x2
          have x3 : wr.drew.cell? ⟨w.heap.size, 3, none⟩ = some (.int .i64 c.swp) := x3
          have gb : Below wr.heap.size wr wr.drew := (Below.refl _ _).drew
          go_region_held3 (fun w' => w'.cell? ⟨w.heap.size, 0, none⟩ = some (.int .i64 c.ins) ∧ w'.cell? ⟨w.heap.size, 1, none⟩ = some (.int .i64 c.del) ∧ w'.cell? ⟨w.heap.size, 2, none⟩ = some (.int .i64 c.chg) ∧ w'.cell? ⟨w.heap.size, 3, none⟩ = some (.int .i64 c.swp)) (first | (refine ⟨?_, ?_, ?_, ?_⟩ <;> assumption) | skip)
            (first | (go_at_call 47; (with_reducible refine (FI.out _).mono ?_); rintro e w5 ⟨rfl, b5⟩; have x0 := below_cell b5 x0; have x1 := below_cell b5 x1; have x2 := below_cell b5 x2; have x3 := below_cell b5 x3; have gb := gb.trans (b5.mono gb.size); clear b5))
          have B5 := Lib.hid (BW.out.trans (gb.mono BW.out.size))
          clear x0 x1 x2 x3 gb
          cases f with
          | false =>
            have kN : k < N := by
              have h : k ≠ N := by
                rintro rfl
                have := (Ed.go_iff.1 NG.out).1
                rw [← HF.out] at this; cases this
              omega
            go_upto_region 10 with fail
            go_quiet (fail)
            go_wp2
            go_roundw
            case rel => exact ⟨rfl, rfl, rfl, k + 1, by go_num, by omega, by omega, below_drewN B5.out _⟩
            case measure => simp [intOf]; omega
          | true =>
            have FL := Ed.ft_len HF.out.symm
            have FS := Ed.ft_less HF.out.symm
            rw [List.length_drop, List.length_drop, LA.out, LB.out, ← HT.out, ← HU.out] at FL
            rw [List.length_drop, List.length_drop, List.length_drop, List.length_drop, LA.out, LB.out, ← HT.out, ← HU.out] at FS
            have R5 := T2.out.quiet (BC.out.trans (B5.out.mono BC.out.size))
            obtain ⟨g, m1, m2⟩ := R5.at (i + t) (j + u) (by omega) (by omega)
            obtain ⟨g', m3, m4⟩ := R5.at i j (by omega) (by omega)
            obtain ⟨d, hd⟩ : ∃ d, d = D (i + t) (j + u) := ⟨_, rfl⟩
            obtain ⟨d0, hd0⟩ : ∃ d, d = D i j := ⟨_, rfl⟩
            rw [← hd] at m2
            rw [← hd0] at m4
            have hd2 : d = Ed.ds c ((xs.drop i).drop t) ((ys.drop j).drop u) := by rw [hd, HD.out, List.drop_drop, List.drop_drop]
            have db := Ed.ds_bd HC.out ((xs.drop i).drop t) ((ys.drop j).drop u) (by rw [List.length_drop, List.length_drop, LA.out]; omega) (by rw [List.length_drop, List.length_drop, LB.out]; omega)
            rw [← hd2] at db
            have cb := Ed.co_nonneg HC.out k
            rw [← HCO.out] at cb
            have H2 : Hid (Ed.go c (xs.drop i) (ys.drop j) k = (co + d == d0)) := by
              show _ = _
              unfold Ed.go
              rw [← HF.out, Bool.true_and, hd2, hd0, HD.out, HCO.out, HT.out, HU.out]
            have qs : IntKind.i64.wrap (co + d) = co + d := IntWalk.i64_in _ (by omega)
            have q1 : IntKind.i64.wrap ((i : Int) + t) = (i : Int) + t := IntWalk.i64_in _ (by omega)
            have q2 : IntKind.i64.wrap ((j : Int) + u) = (j : Int) + u := IntWalk.i64_in _ (by omega)
            have z1 : (i : Int) + t < (a.size : Int) + 1 := by omega
            have z2 : (j : Int) + u < (b.size : Int) + 1 := by omega
            have z3 : (i : Int) < (a.size : Int) + 1 := by omega
            have z4 : (j : Int) < (b.size : Int) + 1 := by omega
            have p1 : ((i : Int) + t).toNat = i + t := by omega
            have p2 : ((j : Int) + u).toNat = j + u := by omega
            clear R5 hd hd2 hd0 db cb
            go_upto_region 10 with fail
            go_quiet (fail)
            have B6 := Lib.hid (below_drewN B5.out nq)
            obtain ⟨w6, hw6⟩ : ∃ x, x = w5.drewN nq := ⟨_, rfl⟩
            rw [← hw6] at B6 ⊢
            clear hw6 m1 m2 m3 m4 B5 z1 z2 z3 z4 qs
            by_cases hkn : k = N
            · have he : (co + d == d0) = true := by rw [← H2.out, hkn]; exact NG.out
              subst hkn
              have PH := PS.out
              rw [List.drop_drop, List.drop_drop, ← HT.out, ← HU.out] at PH
              obtain ⟨l, ho, hp⟩ := K.out
              rw [PH] at hp
              have OL := Lib.hid (ho.quiet B6.out)
              have HPP : Hid ((l ++ [Ed.opO k (ys.drop j)]) ++ Ed.path c (xs.drop (i + t)) (ys.drop (j + u)) = Ed.path c xs ys) := by show _ = _; rw [← hp]; simp
              have LL : l.length ≤ 1000000 := by
                have h1 := congrArg List.length hp
                rw [List.length_append] at h1
                have h2 := Ed.path_len c (xs.length + ys.length) xs ys
                have h3 : (Ed.path c xs ys).length ≤ xs.length + ys.length := h2
                have := LA.out; have := LB.out
                omega
              have tr : 1 ≤ t + u := by rw [HT.out, HU.out]; exact Ed.tk_wr ⟨hk1, hk5⟩
              have OK : Hid ((Ed.opO k (ys.drop j)).k = k) := rfl
              obtain ⟨y, hy⟩ : ∃ y, y = Ed.opO k (ys.drop j) := ⟨_, rfl⟩
              rw [← hy] at HPP OK
              clear PH ho hp
              by_cases hb : k = 2 ∨ k = 5
              · have u1 : u = 1 := by rw [HU.out]; rcases hb with rfl | rfl <;> rfl
                have pj : (j : Int) < (b.size : Int) := by omega
                have Pj : j < b.size := by omega
                have GB : b[j] = y.b := by
                  rw [hy, Ed.byte_at ys b HXB.out j Pj]
                  show _ = if _ then _ else _
                  rw [if_pos hb]
                clear hy
                rcases hb with rfl | rfl
                · go_wp2_with (first | (at_builtin; refine wp_pushq rfl _ _ rfl _ _ rfl ((OL.out.alloc _).alloc _) y (w6.heap.size + 1) 1 rfl (push_cells2 w6 _ y _ 2 _ (by rw [OK.out]; rfl) rfl) LL ?_))
                  intro v' w7 O7
                  have OH := Lib.hid O7
                  clear O7
                  go_wp2
                  go_roundw
                  case rel => exact ⟨i + t, j + u, by go_num, by go_num, by omega, by omega, _, OH.out, HPP.out⟩
                  case measure => simp [intOf]; omega
                · go_wp2_with (first | (at_builtin; refine wp_pushq rfl _ _ rfl _ _ rfl ((OL.out.alloc _).alloc _) y (w6.heap.size + 1) 1 rfl (push_cells2 w6 _ y _ 5 _ (by rw [OK.out]; rfl) rfl) LL ?_))
                  intro v' w7 O7
                  have OH := Lib.hid O7
                  clear O7
                  go_wp2
                  go_roundw
                  case rel => exact ⟨i + t, j + u, by go_num, by go_num, by omega, by omega, _, OH.out, HPP.out⟩
                  case measure => simp [intOf]; omega
              · have n2 : ((k : Int) == 2) = false := beq_eq_false_iff_ne.2 (by omega)
                have n5 : ((k : Int) == 5) = false := beq_eq_false_iff_ne.2 (by omega)
                have Y0 : y.b = 0 := by rw [hy]; show (if _ then _ else _) = _; rw [if_neg hb]
                clear hy
                go_wp2_with (first | (at_builtin; refine wp_pushq rfl _ _ rfl _ _ rfl ((OL.out.alloc _).alloc _) y (w6.heap.size + 1) 1 rfl (push_cells2 w6 _ y _ k 0 (by rw [OK.out]) (by rw [Y0]; rfl)) LL ?_))
                intro v' w7 O7
                have OH := Lib.hid O7
                clear O7
                go_wp2
                go_roundw
                case rel => exact ⟨i + t, j + u, by go_num, by go_num, by omega, by omega, _, OH.out, HPP.out⟩
                case measure => simp [intOf]; omega
            · have he : (co + d == d0) = false := by
                rw [← H2.out]
                cases e : Ed.go c (xs.drop i) (ys.drop j) k with
                | false => rfl
                | true => have := NL.out k e; omega
              go_wp2
              go_roundw
              case rel => exact ⟨rfl, rfl, rfl, k + 1, by go_num, by omega, by omega, B6.out⟩
              case measure => simp [intOf]; omega
    · have e1 : i = a.size := by omega
      have e2 : j = b.size := by omega
      have PE : Hid (Ro w2 wr u11 (Ed.path c xs ys)) := by
        obtain ⟨l, ho, hp⟩ := K.out
        have h1 : xs.drop i = [] := List.drop_of_length_le (by rw [LA.out]; omega)
        have h2 : ys.drop j = [] := List.drop_of_length_le (by rw [LB.out]; omega)
        rw [h1, h2, Ed.path_end (Ed.nx_nil c), List.append_nil] at hp
        show Ro _ _ _ _
        rw [← hp]; exact ho
      subst e1
      subst e2
      obtain ⟨g, m1, m2⟩ := (T2.out.quiet PE.out.bl).at 0 0 (Nat.zero_le _) (Nat.zero_le _)
      have z1 : (0 : Int) < (a.size : Int) + 1 := by omega
      have z2 : (0 : Int) < (b.size : Int) + 1 := by omega
      have x1 : ¬ (a.size : Int) < a.size := by omega
      have x2 : ¬ (b.size : Int) < b.size := by omega
      clear K hin
      go_upto_region 18 with fail
      go_quiet (fail)
      go_wp2
      go_ret3
      have PQ := PE.out.quiet (below_drewN (Below.refl _ _) nq)
      obtain ⟨⟨h1, h2⟩, h3⟩ := PQ
      refine ⟨_, rfl, ⟨⟨h1, ?_⟩, B2.out.trans (h3.mono B2.out.size)⟩⟩
      rcases h2 with h2 | ⟨g, cap, cur, hv, hB, hg⟩
      · exact Or.inl h2
      · exact Or.inr ⟨g, cap, cur, hv, Nat.le_trans B2.out.size hB, hg⟩
end Go.Proofs.Ytalldnnegofdkaa
