/- The reference's Longs, Short, Same. -/
import Derived.Test.YtljfbdiiecohpaaGd
import Derived.Test.YtljfbdiiecohpaaGt
namespace Go.Proofs.Ytljfbdiiecohpaa
open Go.RowKit Go.Lib

set_option maxRecDepth 100000 in
set_option maxHeartbeats 6400000 in
theorem rlongs_any (kk : Nat) (x : Fo.Bs) (w : World) : Calls Try.prog 30 #[.int .u8 kk, .string ⟨x.toArray⟩] w fun e w' => ∃ v, e = .returned v ∧ Otx w w' v (Fo.longs kk x) := by
  have RT := Lib.hid (rtable_any w)
  go_enter Try.func30, Try.ntmps30
  go_wp2_with (go_at_call 28; refine RT.out.mono ?_)
  rintro e w1 ⟨v, rfl, hv, b1⟩
  have HR := Lib.hid hv
  have HB := Lib.hid b1
  obtain ⟨l, hl⟩ : ∃ l, l = Fo.tbl := ⟨_, rfl⟩
  have E : Hid (Fo.longs kk x = Fo.ded [] ((l.filter (Fo.isR kk x)).map (·.lg))) := by show _ = _; rw [hl]; rfl
  have ll : l.length ≤ 40 := by rw [hl, Fo.tbl_len]; omega
  rw [← hl] at HR hv
  obtain ⟨a, c, rfl, -⟩ := hv
  obtain ⟨n, hn⟩ : ∃ n, n = l.length := ⟨_, rfl⟩
  rw [← hn] at HR ll ⊢
  have HN := Lib.hid hn
  clear hn hl b1 RT
  go_wp2
  go_loopw [6, 7] (fun s i wr => ∃ (k : Nat) (z : List Fo.Bs), k ≤ n ∧ i = .int .i64 k ∧ z.length ≤ k ∧ Hid (Otx w1 wr s z) ∧ Hid (Fo.ded z (((l.drop k).filter (Fo.isR kk x)).map (·.lg)) = Fo.longs kk x)) (fun _ i _ => n - (intOf i).toNat)
  case atStart => exact ⟨0, [], Nat.zero_le _, rfl, Nat.zero_le _, Otx.nil w1, E.out.symm⟩
  case round =>
    obtain ⟨k, z, hk, rfl, hz, O, D⟩ := hrel
    by_cases hlt : k < n
    · have hkl : k < l.length := by rw [← HN.out]; exact hlt
      obtain ⟨r, hr⟩ : ∃ r, r = l[k] := ⟨_, rfl⟩
      have DK := D.out
      rw [List.drop_eq_getElem_cons hkl, ← hr] at DK
      obtain ⟨a', c', e1, h1⟩ := HR.out.below O.out.bl
      obtain ⟨rfl, -, rfl⟩ : a' = a ∧ l.length = n ∧ c' = c := by cases e1; exact ⟨rfl, HN.out.symm, rfl⟩
      obtain ⟨b, off, rfl, h2⟩ := h1.resolve_left (by intro e; rw [e] at hkl; simp at hkl)
      obtain ⟨f0, f1, f2⟩ := h2 k hkl
      rw [← hr] at f0 f1 f2
      have OF := Lib.hid (fun w => rof_any r kk x w)
      clear h1 h2 hr e1 D
      cases hp : Fo.isR kk x r with
      | false =>
        rw [hp] at OF
        rw [List.filter_cons_of_neg (by rw [hp]; simp)] at DK
        have D2 := Lib.hid DK
        clear DK hp
        go_wp2_with (go_at_call 51; (with_reducible refine (OF.out _).mono ?_); rintro e w2 ⟨rfl, b2⟩; have O2 := Lib.hid (O.out.quiet b2); clear b2)
        go_roundw
        case rel => exact ⟨k + 1, z, by omega, by go_num, by omega, O2, D2⟩
        case measure => simp [intOf]; omega
      | true =>
        rw [hp] at OF
        rw [List.filter_cons_of_pos (by rw [hp]), List.map_cons, Fo.ded] at DK
        clear hp
        have IN := Lib.hid (fun u w (h : Tx w u z) => rin_any u z r.lg w h (by omega))
        cases hc : z.contains r.lg with
        | true =>
          rw [hc] at IN
          rw [hc, if_pos rfl] at DK
          have D2 := Lib.hid DK
          clear DK hc
          go_wp2_with (first
            | (go_at_call 51; (with_reducible refine (OF.out _).mono ?_); rintro e w2 ⟨rfl, b2⟩; have O2 := Lib.hid (O.out.quiet b2); have f1 := below_cell b2 f1; clear b2)
            | (go_at_call 52; (with_reducible refine (IN.out _ _ O2.out.tx).mono ?_); rintro e w3 ⟨rfl, b3⟩; have O3 := Lib.hid (O2.out.quiet b3); clear b3))
          go_roundw
          case rel => exact ⟨k + 1, z, by omega, by go_num, by omega, O3, D2⟩
          case measure => simp [intOf]; omega
        | false =>
          rw [hc] at IN
          rw [hc, if_neg (by simp)] at DK
          have D2 := Lib.hid DK
          clear DK hc
          go_wp2_with (first
            | (go_at_call 51; (with_reducible refine (OF.out _).mono ?_); rintro e w2 ⟨rfl, b2⟩; have O2 := Lib.hid (O.out.quiet b2); have f1 := below_cell b2 f1; clear b2)
            | (go_at_call 52; (with_reducible refine (IN.out _ _ O2.out.tx).mono ?_); rintro e w3 ⟨rfl, b3⟩; have O3 := Lib.hid (O2.out.quiet b3); have f1 := below_cell b3 f1; clear b3)
            | (at_builtin; refine wp_pusht rfl _ _ rfl _ _ rfl (O3.out.alloc _) r.lg _ 1 rfl ?_ (by omega) ?_))
          · exact cell_at _ _ _ 0 _ _ (by simp) rfl
          · intro v' w5 O5
            have O6 := Lib.hid O5
            clear O5
            go_wp2
            go_roundw
            case rel => exact ⟨k + 1, z ++ [r.lg], by omega, by go_num, by rw [List.length_append]; simp; omega, O6, D2⟩
            case measure => simp [intOf]; omega
    · have hkn : k = n := by omega
      have EZ : Hid (z = Fo.longs kk x) := by
        have d := D.out
        rw [hkn, HN.out, List.drop_length] at d
        show _ = _
        rw [← d]; rfl
      clear D E
      go_wp2
      go_ret
      rw [← EZ.out]
      exact ⟨_, rfl, O.out.up HB.out⟩
namespace Fo
theorem short_found {l : List Rd} {k : Nat} (hk : k < l.length) {p : Rd → Bool} (h0 : (l.take k).filter p = []) (hp : p l[k] = true) : shortR (l.filter p) = (l[k].sh, true) := by
  have : l.filter p = l[k] :: (l.drop (k + 1)).filter p := by
    conv => lhs; rw [← List.take_append_drop k l, List.filter_append, h0, List.nil_append, List.drop_eq_getElem_cons hk, List.filter_cons_of_pos hp]
  rw [this]; rfl
theorem short_not {l : List Rd} {k : Nat} (hk : k < l.length) {p : Rd → Bool} (h0 : (l.take k).filter p = []) (hp : p l[k] = false) : (l.take (k + 1)).filter p = [] := by
  rw [List.take_succ_eq_append_getElem hk, List.filter_append, h0, List.nil_append, List.filter_cons_of_neg (by rw [hp]; simp)]; rfl
end Fo
set_option maxRecDepth 100000 in
set_option maxHeartbeats 6400000 in
theorem rshort_any (kk : Nat) (x : Fo.Bs) (w : World) : Calls Try.prog 29 #[.int .u8 kk, .string ⟨x.toArray⟩] w fun e w' => e = .returned (.tuple #[.string ⟨(Fo.short kk x).1.toArray⟩, .bool (Fo.short kk x).2]) ∧ Below w.heap.size w w' := by
  have RT := Lib.hid (rtable_any w)
  go_enter Try.func29, Try.ntmps29
  go_wp2_with (go_at_call 28; refine RT.out.mono ?_)
  rintro e w1 ⟨v, rfl, hv, b1⟩
  have HR := Lib.hid hv
  have HB := Lib.hid b1
  obtain ⟨l, hl⟩ : ∃ l, l = Fo.tbl := ⟨_, rfl⟩
  have E : Hid (Fo.short kk x = Fo.shortR (l.filter (Fo.isL kk x))) := by show _ = _; rw [hl]; rfl
  have ll : l.length ≤ 40 := by rw [hl, Fo.tbl_len]; omega
  rw [← hl] at HR hv
  obtain ⟨a, c, rfl, -⟩ := hv
  obtain ⟨n, hn⟩ : ∃ n, n = l.length := ⟨_, rfl⟩
  rw [← hn] at HR ll ⊢
  have HN := Lib.hid hn
  clear hn hl b1 RT
  go_wp2
  go_loopw [7] (fun i wr => ∃ k : Nat, k ≤ n ∧ i = .int .i64 k ∧ Hid ((l.take k).filter (Fo.isL kk x) = []) ∧ Qt w1 wr) (fun i _ => n - (intOf i).toNat)
  case atStart => exact ⟨0, Nat.zero_le _, rfl, rfl, Qt.refl _⟩
  case round =>
    obtain ⟨k, hk, rfl, N0, hq⟩ := hrel
    by_cases hlt : k < n
    · have hkl : k < l.length := by rw [← HN.out]; exact hlt
      obtain ⟨r, hr⟩ : ∃ r, r = l[k] := ⟨_, rfl⟩
      obtain ⟨a', c', e1, h1⟩ := HR.out.below hq.bl
      obtain ⟨rfl, -, rfl⟩ : a' = a ∧ l.length = n ∧ c' = c := by cases e1; exact ⟨rfl, HN.out.symm, rfl⟩
      obtain ⟨b, off, rfl, h2⟩ := h1.resolve_left (by intro e; rw [e] at hkl; simp at hkl)
      obtain ⟨f0, f1, f2⟩ := h2 k hkl
      rw [← hr] at f0 f1 f2
      have QQ := Lib.hid hq
      have NO := Lib.hid (fun h => Fo.short_not hkl N0.out (p := Fo.isL kk x) h)
      have YE := Lib.hid (fun h => Fo.short_found hkl N0.out (p := Fo.isL kk x) h)
      rw [← hr] at NO YE
      clear h1 h2 hr e1 hq
      have LL : Fo.isL kk x r = (Fo.isK kk r && r.lg == x) := rfl
      by_cases hx : (r.lg == x) = true
      · by_cases h0 : kk = 0
        · have y := YE.out (by rw [LL, hx, h0]; rfl)
          have EE : Hid (Fo.short kk x = (r.sh, true)) := by show _ = _; rw [E.out, y]
          have g0 : (kk : Int) = 0 := by omega
          clear LL y h0 NO YE E
          go_wp2
          go_ret2
          rw [EE.out]
          exact ⟨rfl, HB.out.trans (QQ.out.bl.mono HB.out.size)⟩
        · have g0 : ((kk : Int) == 0) = false := beq_eq_false_iff_ne.2 (by omega)
          have KE : Fo.isK kk r = ((r.k : Int) == (kk : Int)) := by
            unfold Fo.isK
            rw [beq_eq_false_iff_ne.2 h0, Bool.false_or, Bool.eq_iff_iff, beq_iff_eq, beq_iff_eq]
            omega
          cases hq2 : ((r.k : Int) == (kk : Int)) with
          | true =>
            have y := YE.out (by rw [LL, hx, KE, hq2]; rfl)
            have EE : Hid (Fo.short kk x = (r.sh, true)) := by show _ = _; rw [E.out, y]
            clear LL y h0 NO YE E KE
            go_wp2
            go_ret2
            rw [EE.out]
            exact ⟨rfl, HB.out.trans (QQ.out.bl.mono HB.out.size)⟩
          | false =>
            have N2 := Lib.hid (NO.out (by rw [LL, hx, KE, hq2]; rfl))
            clear LL h0 NO YE KE
            go_wp2
            go_roundw
            case rel => exact ⟨k + 1, by omega, by go_num, N2, QQ.out⟩
            case measure => simp [intOf]; omega
      · have hx2 : (r.lg == x) = false := by simpa using hx
        have N2 := Lib.hid (NO.out (by rw [LL, hx2, Bool.and_false]))
        clear LL hx NO YE
        by_cases h0 : kk = 0
        · have g0 : (kk : Int) = 0 := by omega
          clear h0
          go_wp2
          go_roundw
          case rel => exact ⟨k + 1, by omega, by go_num, N2, QQ.out⟩
          case measure => simp [intOf]; omega
        · have g0 : ((kk : Int) == 0) = false := beq_eq_false_iff_ne.2 (by omega)
          clear h0
          cases hq2 : ((r.k : Int) == (kk : Int)) with
          | true =>
            go_wp2
            go_roundw
            case rel => exact ⟨k + 1, by omega, by go_num, N2, QQ.out⟩
            case measure => simp [intOf]; omega
          | false =>
            go_wp2
            go_roundw
            case rel => exact ⟨k + 1, by omega, by go_num, N2, QQ.out⟩
            case measure => simp [intOf]; omega
    · have EE : Hid (Fo.short kk x = ([], false)) := by
        have e := N0.out
        rw [List.take_of_length_le (by rw [← HN.out]; omega)] at e
        show _ = _
        rw [E.out, e]; rfl
      have QQ := Lib.hid hq
      clear hq
      go_wp2
      go_ret2
      rw [EE.out]
      exact ⟨rfl, HB.out.trans (QQ.out.bl.mono HB.out.size)⟩
set_option maxRecDepth 100000 in
set_option maxHeartbeats 6400000 in
theorem rsame_any (k : Nat) (a b : Fo.Bs) (w : World) : Calls Try.prog 32 #[.int .u8 k, .string ⟨a.toArray⟩, .string ⟨b.toArray⟩] w fun e w' => e = .returned (.bool (Fo.same k a b)) ∧ Below w.heap.size w w' := by
  by_cases hab : a = b
  · subst hab
    have E : Hid (Fo.same k a a = true) := by show _ = _; unfold Fo.same; simp
    go_enter Try.func32, Try.ntmps32
    go_wp2
    go_ret
    rw [E.out]
    exact ⟨rfl, Below.refl _ _⟩
  · have nb : (a == b) = false := beq_eq_false_iff_ne.2 hab
    obtain ⟨A, hA⟩ : ∃ A, A = Fo.longs k a := ⟨_, rfl⟩
    obtain ⟨C, hC⟩ : ∃ C, C = Fo.longs k b := ⟨_, rfl⟩
    have E : Hid (Fo.same k a b = A.any fun x => C.contains x) := by show _ = _; unfold Fo.same; rw [nb, Bool.false_or, hA, hC]
    have LA := Lib.hid (fun w => rlongs_any k a w)
    have LB := Lib.hid (fun w => rlongs_any k b w)
    have al : A.length ≤ 40 := by rw [hA]; exact Fo.longs_len _ _
    have cl : C.length ≤ 40 := by rw [hC]; exact Fo.longs_len _ _
    rw [← hA] at LA
    rw [← hC] at LB
    obtain ⟨n, hn⟩ : ∃ n, n = A.length := ⟨_, rfl⟩
    rw [← hn] at al
    have HN := Lib.hid hn
    clear hab hA hC hn
    go_enter Try.func32, Try.ntmps32
    go_wp2_with (first
      | (go_at_call 30; (with_reducible refine (LA.out _).mono ?_); rintro e w2 ⟨v, rfl, O⟩; have T1 := Lib.hid O.tx; have B := Lib.hid O.bl; obtain ⟨x2, c2, rfl, -⟩ := O.tx; rw [← HN.out] at T1 ⊢; clear O)
      | (go_at_call 30; (with_reducible refine (LB.out _).mono ?_); rintro e w3 ⟨u, rfl, O⟩; have T2 := Lib.hid O.tx; have T1 := Lib.hid (T1.out.below O.bl); have B := Lib.hid (B.out.trans (O.bl.mono B.out.size)); clear O))
    go_loopw [9] (fun i wr => ∃ j : Nat, j ≤ n ∧ i = .int .i64 j ∧ Hid ((A.take j).any (fun x => C.contains x) = false) ∧ Hid (Below w3.heap.size w3 wr)) (fun i _ => n - (intOf i).toNat)
    case atStart => exact ⟨0, Nat.zero_le _, rfl, rfl, Below.refl _ _⟩
    case round =>
      obtain ⟨j, hj, rfl, AN, K⟩ := hrel
      by_cases hlt : j < n
      · have j1 : j < A.length := by rw [← HN.out]; exact hlt
        obtain ⟨b1, o1, rfl, c1⟩ := Tx.at (T1.out.below K.out) j1
        obtain ⟨x, hx⟩ : ∃ x, x = A[j] := ⟨_, rfl⟩
        rw [← hx] at c1
        have TK : A.take (j + 1) = A.take j ++ [x] := by rw [hx]; exact List.take_succ_eq_append_getElem j1
        have IN := Lib.hid (fun w (h : Tx w u C) => rin_any u C x w h (by omega))
        cases hc : C.contains x with
        | true =>
          have EE : Hid (Fo.same k a b = true) := by
            show _ = _
            rw [E.out, List.any_eq_true]
            exact ⟨x, by rw [hx]; exact List.getElem_mem j1, hc⟩
          rw [hc] at IN
          clear TK hc hx
          go_wp2_with (go_at_call 52; (with_reducible refine (IN.out _ (T2.out.below K.out)).mono ?_); rintro e w5 ⟨rfl, b5⟩; have K := Lib.hid (K.out.trans (b5.mono K.out.size)); clear b5)
          go_ret
          rw [EE.out]
          exact ⟨rfl, B.out.trans (K.out.mono B.out.size)⟩
        | false =>
          have AN2 : Hid ((A.take (j + 1)).any (fun x => C.contains x) = false) := by
            show _ = _
            rw [TK, List.any_append, AN.out, List.any_cons, hc]; rfl
          rw [hc] at IN
          clear TK hc hx
          go_wp2_with (go_at_call 52; (with_reducible refine (IN.out _ (T2.out.below K.out)).mono ?_); rintro e w5 ⟨rfl, b5⟩; have K := Lib.hid (K.out.trans (b5.mono K.out.size)); clear b5)
          go_roundw
          case rel => exact ⟨j + 1, by omega, by go_num, AN2, K⟩
          case measure => simp [intOf]; omega
      · have EE : Hid (Fo.same k a b = false) := by
          have an := AN.out
          rw [List.take_of_length_le (by rw [← HN.out]; omega)] at an
          show _ = _
          rw [E.out, an]
        go_wp2
        go_ret
        rw [EE.out]
        exact ⟨rfl, B.out.trans (K.out.mono B.out.size)⟩
end Go.Proofs.Ytljfbdiiecohpaa
