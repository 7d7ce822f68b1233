/- FoldSmall's walk. -/
import Derived.Test.YtljfbdiiecohpaaGg
import Derived.Test.YtljfbdiiecohpaaGc
import Derived.Test.YtljfbdiiecohpaaGu
import Derived.Test.YtljfbdiiecohpaaFz
import Derived.Deep.RegionHeld3
import Derived.Deep.DeepCutAuto
namespace Go.Proofs.Ytljfbdiiecohpaa
open Go.RowKit Go.Lib

theorem of_two (b c : UInt8) (w : World) : (convert 23 9 (.slice (some ⟨w.heap.size, 0, none⟩) 2 2)).run Try.prog (w.alloc (.cells #[.int .u8 b.toNat, .int .u8 c.toNat] 5)) = .ok (.string ⟨#[b, c]⟩) (w.alloc (.cells #[.int .u8 b.toNat, .int .u8 c.toNat] 5)) := by
  refine run_convert_bytes_back (w.alloc (.cells #[.int .u8 b.toNat, .int .u8 c.toNat] 5)) _ _ 5 ⟨w.heap.size, 0, none⟩ 2 [b, c] Try.underlying23 Try.underlying5 Try.underlying9 fun j hj => ?_
  match j, hj with
  | 0, _ => exact cell_at _ _ _ 0 _ _ rfl rfl
  | 1, _ => exact cell_at _ _ _ 1 _ _ rfl rfl
  | j + 2, hj => simp at hj; omega
theorem folds_x7 (l : List UInt8) (w : World) (hl : l.length ≤ 2) : Calls Try.prog 8 #[.string (⟨#[120]⟩ ++ ⟨l.toArray⟩ ++ ⟨#[55]⟩)] w fun e w' => e = .returned (.bool true) ∧ Below w.heap.size w w' := by
  have := folds_any ([120] ++ l ++ [55]) w (by rw [List.length_append, List.length_append]; simp only [List.length_cons, List.length_nil]; omega)
  rw [← app ([120] ++ l) [55], ← app [120] l] at this
  exact this
theorem words_255 (x y : Fo.Bs) (w : World) : Calls Try.prog 11 #[.int .u8 255, .string ⟨x.toArray⟩, .string ⟨y.toArray⟩] w fun e w' => e = .returned (.bool true) ∧ Below w.heap.size w w' := words_true 255 x y w
theorem words_0S (x y : Fo.Bs) (w : World) : Calls Try.prog 11 #[.int .u8 0, .string (⟨x.toArray⟩ ++ ⟨#[83]⟩), .string ⟨y.toArray⟩] w fun e w' => e = .returned (.bool true) ∧ Below w.heap.size w w' := by
  have := words_true 0 (x ++ [83]) y w
  rw [← app x [83]] at this
  exact this
theorem folds_ss (l : List UInt8) (w : World) (hl : l.length ≤ 2) : Calls Try.prog 8 #[.string (⟨l.toArray⟩ ++ ⟨l.toArray⟩)] w fun e w' => e = .returned (.bool true) ∧ Below w.heap.size w w' := by
  have := folds_any (l ++ l) w (by rw [List.length_append]; omega)
  rw [← app l l] at this
  exact this
theorem Rw.pre {w : World} {a : Option Addr} {n c : Nat} {l m : List Fo.Rd} (h : Rw w (.slice a n c) (l ++ m)) : Rw w (.slice a l.length c) l := by
  obtain ⟨a2, c2, hv, h⟩ := h
  injection hv with h1 _ h3
  subst h1 h3
  refine ⟨a, c, rfl, ?_⟩
  rcases h with h | ⟨b, off, ha, h⟩
  · exact .inl (List.append_eq_nil_iff.1 h).1
  · refine .inr ⟨b, off, ha, fun j hj => ?_⟩
    have := h j (by rw [List.length_append]; omega)
    rw [List.getElem_append_left hj] at this
    exact this
set_option maxRecDepth 100000 in
set_option maxHeartbeats 12800000 in
theorem walk_foldSmall (w : World) : Calls Try.prog 3 #[] w fun e w' => e = .returned (.bool true) ∧ Below w.heap.size w w' := by
  have FA := Lib.hid (fun l w hl => folds_any l w hl)
  obtain ⟨N, n1, n2⟩ : ∃ N : Nat, N ≤ 65536 ∧ 65536 ≤ N := ⟨65536, Nat.le_refl _, Nat.le_refl _⟩
  go_enter Try.func3, Try.ntmps3
  go_wp2
  go_loopw [1] (fun i wr => ∃ k : Nat, k ≤ N ∧ i = .int .i64 k ∧ Hid (Below w.heap.size w wr)) (fun i _ => N - (intOf i).toNat)
  case atStart => exact ⟨0, Nat.zero_le _, rfl, Below.refl _ _⟩
  case round =>
    obtain ⟨k, hk, rfl, B⟩ := hrel
    by_cases hlt : k < N
    · have hlt2 : (k : Int) < 65536 := by omega
      obtain ⟨b, hb⟩ : ∃ b : UInt8, (b.toNat : Int) = (k : Int) % 256 := ⟨UInt8.ofNat (k % 256), by rw [UInt8.toNat_ofNat']; omega⟩
      obtain ⟨c, hc⟩ : ∃ c : UInt8, (c.toNat : Int) = (k : Int) / 256 := ⟨UInt8.ofNat (k / 256), by rw [UInt8.toNat_ofNat']; omega⟩
      have CV := fun W => of_two b c W
      rw [hb, hc] at CV
      obtain ⟨l, hl, h2l⟩ : ∃ l : List UInt8, l = [b, c] ∧ l.length ≤ 2 := ⟨_, rfl, Nat.le_refl _⟩
      rw [show (⟨#[b, c]⟩ : ByteArray) = ⟨l.toArray⟩ by rw [hl]] at CV
      have F1 := Lib.hid (fun w => FA.out l w (by omega))
      have F2 := Lib.hid (fun w => folds_x7 l w h2l)
      have F3 := Lib.hid (fun w => folds_ss l w h2l)
      clear hb hc hl
      go_upto_region 5 with fail
      go_cut [40] (fun s wx => s = .bool false ∧ Below w.heap.size w wx)
      case first =>
        have B := Lib.hid (B.out.alloc B.out.size (.cells #[.int .u8 ((k : Int) % 256), .int .u8 ((k : Int) / 256)] 5))
        clear CV FA n1 n2
        by_cases t7 : (k : Int) % 7 = 0
        · go_wp2_with (first
            | (go_at_call 8; with_reducible refine (F1.out _).mono ?_; rintro e w2 ⟨rfl, b2⟩; have B := Lib.hid (B.out.trans (b2.mono B.out.size)); clear b2)
            | (go_at_call 8; with_reducible refine (F2.out _).mono ?_; rintro e w2 ⟨rfl, b2⟩; have B := Lib.hid (B.out.trans (b2.mono B.out.size)); clear b2)
            | (go_at_call 8; with_reducible refine (F3.out _).mono ?_; rintro e w2 ⟨rfl, b2⟩; have B := Lib.hid (B.out.trans (b2.mono B.out.size)); clear b2))
          go_meet
          exact ⟨rfl, B.out⟩
        · have t8 : ((k : Int) % 7 == 0) = false := beq_eq_false_iff_ne.2 t7
          clear t7
          go_wp2_with (go_at_call 8; with_reducible refine (F1.out _).mono ?_; rintro e w2 ⟨rfl, b2⟩; have B := Lib.hid (B.out.trans (b2.mono B.out.size)); clear b2)
          go_meet
          exact ⟨rfl, B.out⟩
      case rest =>
        obtain ⟨rfl, b2⟩ := hcut
        have B2 := Lib.hid b2
        clear b2
        go_wp2
        go_roundw
        case rel => exact ⟨k + 1, by omega, by go_num, B2⟩
        case measure => simp [intOf]; omega
    · have hlt2 : ¬ (k : Int) < 65536 := by omega
      have TO := Lib.hid table_own
      have AW := Lib.hid awake5_any
      clear FA n1 n2 hk hlt
      go_wp2_with (first
        | (go_at_call 9; (with_reducible refine (TO.out _).mono ?_); rintro e w3 ⟨g, rfl, hg, O⟩; have B3 := Lib.hid (B.out.trans (O.bl.mono B.out.size)); have HG := Lib.hid hg; have HO := Lib.hid O; clear O hg)
        | (go_at_call 10; (with_reducible refine (sameTable_true _ _ HO.out.rw).mono ?_); rintro e w4 ⟨rfl, b4⟩; have B4 := Lib.hid (B3.out.trans (b4.mono B3.out.size)); have O4 := Lib.hid (HO.out.quiet b4); clear b4))
      obtain ⟨L, hL⟩ : ∃ L, L = Fo.tbl := ⟨_, rfl⟩
      have HL := Lib.hid hL
      have ll : L.length = 40 := by rw [hL]; rfl
      have LL := Lib.hid ll
      have CE : Hid (∀ j (hj : j < L.length) W, Below w4.heap.size w4 W → W.cell? ⟨g, j * 3 + 1, none⟩ = some (.string ⟨L[j].lg.toArray⟩) ∧ W.cell? ⟨g, j * 3 + 2, none⟩ = some (.string ⟨L[j].sh.toArray⟩)) := fun j hj W hW => by
        subst hL
        obtain ⟨_, h1, h2⟩ := rcs_at Fo.tbl j hj
        have j40 : j < 40 := hj
        have o1 := O4.out.own.cellAt (j * 3 + 1) (by omega)
        have o2 := O4.out.own.cellAt (j * 3 + 2) (by omega)
        exact ⟨below_cell hW (o1.trans h1), below_cell hW (o2.trans h2)⟩
      have RN : Hid (∀ j (hj : j < L.length), L[j].lg.length ≤ 100) := fun j hj => by subst hL; exact (Fo.row_right _ (List.getElem_mem hj)).2.2.1
      clear hL ll
      have WT := Lib.hid (fun q x y w => words_true q x y w)
      go_loopw [4] (fun i wr => ∃ i1 : Nat, i1 ≤ 40 ∧ i = .int .i64 i1 ∧ Hid (Below w4.heap.size w4 wr)) (fun i _ => 40 - (intOf i).toNat)
      case atStart => exact ⟨0, by omega, rfl, Below.refl _ _⟩
      case round =>
        obtain ⟨i1, hi1, rfl, K⟩ := hrel
        obtain ⟨wo, rfl⟩ : ∃ wo, wo = wr := ⟨_, rfl⟩
        by_cases hl1 : i1 < 40
        · obtain ⟨r, hr⟩ : ∃ r, r = L[i1]'(by rw [LL.out]; exact hl1) := ⟨_, rfl⟩
          have CR : Hid (∀ W, Below w4.heap.size w4 W → W.cell? ⟨g, i1 * 3 + 1, none⟩ = some (.string ⟨r.lg.toArray⟩) ∧ W.cell? ⟨g, i1 * 3 + 2, none⟩ = some (.string ⟨r.sh.toArray⟩)) := fun W hW => by rw [hr]; exact CE.out i1 (by rw [LL.out]; exact hl1) W hW
          have rl : r.lg.length ≤ 100 := by rw [hr]; exact RN.out i1 _
          have RL := Lib.hid rl
          have hl1' : (i1 : Int) < 40 := by omega
          clear hr rl
          go_wp2
          go_loopw [5] (fun i wr => ∃ i2 : Nat, i2 ≤ 40 ∧ i = .int .i64 i2 ∧ Hid (Below w4.heap.size w4 wr)) (fun i _ => 40 - (intOf i).toNat)
          case atStart => exact ⟨0, by omega, rfl, K⟩
          case round =>
            obtain ⟨i2, hi2, rfl, K2⟩ := hrel
            obtain ⟨wp, rfl⟩ : ∃ wp, wp = wr := ⟨_, rfl⟩
            by_cases hl2 : i2 < 40
            · obtain ⟨s, hs⟩ : ∃ s, s = L[i2]'(by rw [LL.out]; exact hl2) := ⟨_, rfl⟩
              have CS : Hid (∀ W, Below w4.heap.size w4 W → W.cell? ⟨g, i2 * 3 + 1, none⟩ = some (.string ⟨s.lg.toArray⟩) ∧ W.cell? ⟨g, i2 * 3 + 2, none⟩ = some (.string ⟨s.sh.toArray⟩)) := fun W hW => by rw [hs]; exact CE.out i2 (by rw [LL.out]; exact hl2) W hW
              have hl2' : (i2 : Int) < 40 := by omega
              clear hs
              go_wp2
              go_loopw [6] (fun i wr => ∃ q : Nat, q ≤ 8 ∧ i = .int .u8 q ∧ Hid (Below w4.heap.size w4 wr)) (fun i _ => 8 - (intOf i).toNat)
              case atStart => exact ⟨0, by omega, rfl, K2⟩
              case round =>
                obtain ⟨q, hq8, rfl, K3⟩ := hrel
                by_cases hl3 : q < 8
                · have hq3 : (q : Int) < 8 := by omega
                  have W1 := Lib.hid (fun x y w => WT.out q x y w)
                  go_upto_region 19 with fail
                  go_cut [118] (fun s wx => s = .bool false ∧ Below w4.heap.size w4 wx)
                  case first =>
                    obtain ⟨g1, g2⟩ := CR.out wr.drew K3.out.drew
                    obtain ⟨g3, g4⟩ := CS.out wr.drew K3.out.drew
                    have gb : Below w4.heap.size w4 wr.drew := K3.out.drew
                    go_region_held3 (fun w' => w'.cell? ⟨g, i1 * 3 + 1, none⟩ = some (.string ⟨r.lg.toArray⟩) ∧ w'.cell? ⟨g, i1 * 3 + 2, none⟩ = some (.string ⟨r.sh.toArray⟩) ∧ w'.cell? ⟨g, i2 * 3 + 1, none⟩ = some (.string ⟨s.lg.toArray⟩) ∧ w'.cell? ⟨g, i2 * 3 + 2, none⟩ = some (.string ⟨s.sh.toArray⟩) ∧ Below w4.heap.size w4 w') (first | (refine ⟨?_, ?_, ?_, ?_, ?_⟩ <;> assumption) | skip)
                      (first
                        | (go_at_call 11; (with_reducible refine (W1.out _ _ _).mono ?_); rintro e w5 ⟨rfl, b5⟩; have g1 := below_cell b5 g1; have g2 := below_cell b5 g2; have g3 := below_cell b5 g3; have g4 := below_cell b5 g4; have gb := gb.trans (b5.mono gb.size); clear b5))
                    go_wp2_with fail
                    go_meet
                    exact ⟨rfl, gb⟩
                  case rest =>
                    obtain ⟨rfl, b7⟩ := hcut
                    have K7 := Lib.hid b7
                    clear b7
                    go_wp2
                    go_roundw
                    case rel => exact ⟨q + 1, by omega, by go_num, K7⟩
                    case measure => simp [intOf]; omega
                · have hq3 : ¬ (q : Int) < 8 := by omega
                  go_wp2
                  go_roundw
                  case rel => exact ⟨i2 + 1, by omega, by go_num, K3⟩
                  case measure => simp [intOf]; omega
            · have W2 := Lib.hid (fun x y w => words_255 x y w)
              have W3 := Lib.hid (fun x y w => words_0S x y w)
              have hl2' : ¬ (i2 : Int) < 40 := by omega
              have rl := RL.out
              clear WT
              go_upto_region 21 with fail
              go_cut [145] (fun s wx => s = .bool false ∧ Below w4.heap.size w4 wx)
              case first =>
                obtain ⟨g1, g2⟩ := CR.out wp.drew K2.out.drew
                have gb : Below w4.heap.size w4 wp.drew := K2.out.drew
                have z1 : r.lg.length + 1 ≤ 9223372036854775807 := by omega
                have z2 : ¬ (9223372036854775807 < r.lg.length + 1) := by omega
                have s1 : (⟨#[83]⟩ : ByteArray).size = 1 := rfl
                have s2 : (⟨r.lg.toArray⟩ : ByteArray).size = r.lg.length := rfl
                have e1 : ∀ W : World, (Op.stringOp .add ⟨r.lg.toArray⟩ ⟨#[83]⟩).run Try.prog W = .ok (.string (⟨r.lg.toArray⟩ ++ ⟨#[83]⟩)) W := fun W => Go.run_string_add_sum W _ _ (by rw [s1, s2]; exact z1)
                clear rl
                go_region_held3 (fun w' => w'.cell? ⟨g, i1 * 3 + 1, none⟩ = some (.string ⟨r.lg.toArray⟩) ∧ w'.cell? ⟨g, i1 * 3 + 2, none⟩ = some (.string ⟨r.sh.toArray⟩) ∧ Below w4.heap.size w4 w') (first | (refine ⟨?_, ?_, ?_⟩ <;> assumption) | skip)
                  (first
                    | (go_at_call 11; (with_reducible refine (W2.out _ _ _).mono ?_); rintro e w5 ⟨rfl, b5⟩; have g1 := below_cell b5 g1; have g2 := below_cell b5 g2; have gb := gb.trans (b5.mono gb.size); clear b5)
                    | (go_at_call 11; (with_reducible refine (W3.out _ _ _).mono ?_); rintro e w5 ⟨rfl, b5⟩; have g1 := below_cell b5 g1; have g2 := below_cell b5 g2; have gb := gb.trans (b5.mono gb.size); clear b5))
                go_wp2_with fail
                go_meet
                exact ⟨rfl, gb⟩
              case rest =>
                obtain ⟨rfl, b7⟩ := hcut
                have K7 := Lib.hid b7
                clear b7
                go_wp2
                go_roundw
                case rel => exact ⟨i1 + 1, by omega, by go_num, K7⟩
                case measure => simp [intOf]; omega
        · have hl1' : ¬ (i1 : Int) < 40 := by omega
          have O5 := O4.out.quiet K.out
          have HO5 := Lib.hid O5
          obtain ⟨x0, c0⟩ : ∃ x, wo.cell? ⟨g, 0, none⟩ = some x := ⟨_, (O5.own.cellAt 0 (by decide)).trans (rcs_at Fo.tbl 0 (by decide)).1⟩
          obtain ⟨x1, c1⟩ : ∃ x, wo.cell? ⟨g, 1, none⟩ = some x := ⟨_, (O5.own.cellAt 1 (by decide)).trans (rcs_at Fo.tbl 0 (by decide)).2.1⟩
          obtain ⟨x2, c2⟩ : ∃ x, wo.cell? ⟨g, 2, none⟩ = some x := ⟨_, (O5.own.cellAt 2 (by decide)).trans (rcs_at Fo.tbl 0 (by decide)).2.2⟩
          have f0 := O5.own.frozenAt 0
          have f1 := O5.own.frozenAt 1
          have f2 := O5.own.frozenAt 2
          clear O5 WT
          have hgw : w.heap.size ≤ g := Nat.le_trans B.out.size HG.out
          have B6 : Below w.heap.size w wo := B4.out.trans (K.out.mono B4.out.size)
          obtain ⟨WW, hWW⟩ : ∃ W, W = ((wo.setCell ⟨g, 0, none⟩ (.int .u8 0)).setCell ⟨g, 1, none⟩ (.string ⟨#[]⟩)).setCell ⟨g, 2, none⟩ (.string ⟨#[]⟩) := ⟨_, rfl⟩
          have BW : Hid (Below w.heap.size w WW) := by show Below _ _ _; rw [hWW]; exact ((B6.setCell hgw _).setCell hgw _).setCell hgw _
          have HW := Lib.hid hWW
          clear B6 hgw hWW
          go_wp2_with (first
            | (go_at_call 9; rw [← HW.out]; (with_reducible refine (TO.out _).mono ?_); rintro e w6 ⟨g6, rfl, hg6, O⟩; have O6 := Lib.hid O; clear O hg6)
            | (at_builtin; refine wp_pushr rfl _ _ rfl _ _ rfl (O6.out.alloc _) ⟨9, [], []⟩ w6.heap.size 1 rfl ?_ (by decide) ?_))
          · intro j u hj
            match j, hj with
            | 0, hj => exact cell_at _ _ _ 0 _ _ rfl hj
            | 1, hj => exact cell_at _ _ _ 1 _ _ rfl hj
            | 2, hj => exact cell_at _ _ _ 2 _ _ rfl hj
            | j + 3, hj => simp [rcells] at hj
          · intro v' w3 O3
            have B7 := Lib.hid (BW.out.trans (O3.bl.mono BW.out.size))
            have R3 := O3.rw
            have o2 := O3.own.2
            have L41 : (Fo.tbl ++ [(⟨9, [], []⟩ : Fo.Rd)]).length = 41 := by rw [List.length_append, Fo.tbl_len]; rfl
            rw [L41] at o2
            rcases o2 with ⟨_, h0⟩ | ⟨g3, cap, cur, rfl, _, _, hcap, _⟩
            · exact absurd h0 (by decide)
            have SP : Hid (Rw w3 (.slice (some ⟨g3, 0, none⟩) 40 cap) Fo.tbl) := R3.pre
            have hc : (41 : Int) ≤ cap := by omega
            have hc2 : (40 : Int) ≤ cap := by omega
            clear O3 R3 hcap L41 O6 HW c0 c1 c2 f0 f1 f2
            go_wp2_with (first
              | (go_at_call 10; (with_reducible refine (sameTable_true _ _ H9.out).mono ?_); rintro e w10 ⟨rfl, b10⟩; have B10 := Lib.hid (B9.out.trans (b10.mono B9.out.size)); clear b10)
              | (go_at_call 10; (with_reducible refine (sameTable_true _ _ SP.out).mono ?_); rintro e w8 ⟨rfl, b8⟩; have B8 := Lib.hid (B7.out.trans (b8.mono B7.out.size)); clear b8)
              | (go_at_call 9; (with_reducible refine (TO.out _).mono ?_); rintro e w9 ⟨g9, rfl, hg9, O⟩; have B9 := Lib.hid (B8.out.trans (O.bl.mono B8.out.size)); have H9 := Lib.hid O.rw; clear O hg9)
              | (go_at_call 12; (with_reducible refine (AW.out _).mono ?_); rintro e w11 ⟨rfl, b11⟩; have B11 := Lib.hid (B10.out.trans (b11.mono B10.out.size)); clear b11))
            go_ret
            exact ⟨by simp, B11.out⟩
end Go.Proofs.Ytljfbdiiecohpaa
