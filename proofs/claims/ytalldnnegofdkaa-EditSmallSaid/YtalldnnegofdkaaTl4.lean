/- The contract of the reference's table. -/
import Derived.Test.YtalldnnegofdkaaTl3
namespace Go.Proofs.Ytalldnnegofdkaa
open Go.RowKit Go.Shelf

set_option maxRecDepth 100000 in
set_option maxHeartbeats 3200000 in
theorem rtable_any (c : Ed.Cs) (hc : Ed.Rc c) (xs ys : Ed.Bs) (hx : xs.length ≤ 60) (hy : ys.length ≤ 60) (w : World) :
    Calls Try.prog 46 #[sb xs, sb ys, cv c] w fun e w' => e = .returned (.slice (some ⟨w.heap.size + 1, 0, none⟩) (xs.length + 1) (xs.length + 1)) ∧ Tb c (w.heap.size + 1) xs.length ys.length (fun i j => Ed.ds c (xs.drop i) (ys.drop j)) w w' 0 := by
  obtain ⟨a, hxa⟩ : ∃ a : ByteArray, a = ⟨xs.toArray⟩ := ⟨_, rfl⟩
  obtain ⟨b, hxb⟩ : ∃ b : ByteArray, b = ⟨ys.toArray⟩ := ⟨_, rfl⟩
  have hla : xs.length = a.size := by rw [hxa]; exact (Ed.size_is xs).symm
  have hlb : ys.length = b.size := by rw [hxb]; exact (Ed.size_is ys).symm
  have LA := Lib.hid hla
  have LB := Lib.hid hlb
  have e1 : sb xs = .string a := by rw [hxa]
  have e2 : sb ys = .string b := by rw [hxb]
  rw [e1, e2, hla, hlb]
  rw [hla] at hx
  rw [hlb] at hy
  have HXA := Lib.hid hxa
  have HXB := Lib.hid hxb
  have HC := Lib.hid hc
  have MI : Hid (∀ w, (Instr.makeSlice 73 (.int .i64 ((b.size : Int) + 1)) (.int .i64 ((b.size : Int) + 1))).run Try.prog w = .ok (.slice (some ⟨w.heap.size, 0, none⟩) (b.size + 1) (b.size + 1)) (w.alloc (.cells (madeCells #[.int .i64 0] (b.size + 1)) 3))) := run_make_row' (P := Try.prog) 73 3 (.int .i64 0) 8 Try.underlying73 info_int rfl .i64 .i64 (b.size + 1) (by omega) (by omega)
  have MO : Hid (∀ w, (Instr.makeSlice 94 (.int .i64 ((a.size : Int) + 1)) (.int .i64 ((a.size : Int) + 1))).run Try.prog w = .ok (.slice (some ⟨w.heap.size, 0, none⟩) (a.size + 1) (a.size + 1)) (w.alloc (.cells (madeCells #[.slice none 0 0] (a.size + 1)) 73))) := run_make_row' (P := Try.prog) 94 73 (.slice none 0 0) 24 Try.underlying94 info_rows rfl .i64 .i64 (a.size + 1) (by omega) (by omega)
  obtain ⟨D, hD⟩ : ∃ D : Nat → Nat → Int, D = fun i j => Ed.ds c (xs.drop i) (ys.drop j) := ⟨_, rfl⟩
  rw [← hD]
  have HD := Lib.hid hD
  have T0 := Lib.hid (Tb.start c a.size b.size D w)
  clear e1 e2 hxa hxb hc hla hlb hD
  go_enter Try.func46, Try.ntmps46
  have mo := MO.out
  go_wp2
  clear mo
  obtain ⟨q, hq⟩ : ∃ q, q = w.heap.size + 1 := ⟨_, rfl⟩
  rw [← hq] at T0 ⊢
  have Q := Lib.hid hq
  clear hq
  go_loopw [8] (fun s wx => ∃ z : Int, s = .int .i64 z ∧ -1 ≤ z ∧ z ≤ a.size ∧ Hid (Tb c q a.size b.size D w wx (z + 1).toNat)) (fun s _ => (intOf s + 1).toNat)
  case atStart => exact ⟨_, rfl, by omega, Int.le_refl _, T0.out⟩
  case round =>
    obtain ⟨z, rfl, hz1, hz2, I⟩ := hrel
    by_cases hlt : 0 ≤ z
    · obtain ⟨i, rfl⟩ : ∃ i : Nat, z = i := ⟨z.toNat, by omega⟩
      have hi : i ≤ a.size := by omega
      have I1 : Tb c q a.size b.size D w wr (i + 1) := I.out
      obtain ⟨qn, v, hv⟩ := I1.slot hi
      have c1 := fun o => (hv o).1
      have f1 := fun o => (hv o).2
      have mi := MI.out
      have i1 : (i : Int) < (a.size : Int) + 1 := by omega
      have R0 := Lib.hid (I1.row hi)
      obtain ⟨g0, hg0⟩ : ∃ g, g = wr.heap.size := ⟨_, rfl⟩
      rw [← hg0] at R0
      clear I I1 hv
      go_wp2
      rw [← hg0]
      clear hg0 qn c1 f1 mi v
      go_loopw [9] (fun s wy => ∃ z : Int, s = .int .i64 z ∧ -1 ≤ z ∧ z ≤ b.size ∧ ∃ F, Hid (Tr c q a.size b.size i g0 D w wy F) ∧ Hid (∀ j : Nat, z < j → j ≤ b.size → F j = D i j)) (fun s _ => (intOf s + 1).toNat)
      case atStart => exact ⟨_, rfl, by omega, Int.le_refl _, _, R0, fun j h1 h2 => by omega⟩
      case round =>
        obtain ⟨z, rfl, hy1, hy2, F, R, E⟩ := hrel
        by_cases hjt : 0 ≤ z
        · obtain ⟨j, rfl⟩ : ∃ j : Nat, z = j := ⟨z.toNat, by omega⟩
          have hj : j ≤ b.size := by omega
          obtain ⟨wo, hwo⟩ : ∃ x, x = wr := ⟨_, rfl⟩
          rw [← hwo] at R ⊢
          clear hwo
          go_upto_region 10 with fail
          obtain ⟨p, hp⟩ : ∃ p, p = decide (i = a.size ∧ j = b.size) := ⟨_, rfl⟩
          go_cut [48] (fun s wx => s = .bool p ∧ wx = wo)
          case first =>
            by_cases e : i = a.size
            · have h1 : ((i : Int) == (a.size : Int)) = true := beq_iff_eq.2 (by omega)
              have h2 : ((j : Int) == (b.size : Int)) = p := by
                rw [hp]
                by_cases e2 : j = b.size
                · rw [decide_eq_true ⟨e, e2⟩]; exact beq_iff_eq.2 (by omega)
                · rw [decide_eq_false (fun x => e2 x.2)]; exact beq_eq_false_iff_ne.2 (by omega)
              clear hp e
              go_wp2
              go_meet
              case rel => exact ⟨by rfl, rfl⟩
            · have h1 : ((i : Int) == (a.size : Int)) = false := beq_eq_false_iff_ne.2 (by omega)
              have h2 : p = false := by rw [hp]; exact decide_eq_false (fun x => e x.1)
              subst h2
              clear hp e
              go_wp2
              go_meet
              case rel => exact ⟨by rfl, rfl⟩
          case rest =>
            obtain ⟨rfl, rfl⟩ := hcut
            have Z := Ed.rb_zero c (Ed.ds c) xs ys i j (by rw [LA.out]; exact hi) (by rw [LB.out]; exact hj)
            rw [LA.out, LB.out] at Z
            go_upto_if 48 with fail
            go_cut [10] (fun s wx => s = .int .i64 (Ed.rb c (Ed.ds c) 0 (xs.drop i) (ys.drop j)) ∧ wx = wc)
            case first =>
              by_cases hij : i = a.size ∧ j = b.size
              · rw [if_pos hij] at Z
                rw [decide_eq_true hij] at hp
                subst hp
                have ZH := Lib.hid Z
                clear Z hij
                go_wp2
                go_meet
                case rel => exact ⟨by rw [ZH.out], rfl⟩
              · rw [if_neg hij] at Z
                rw [decide_eq_false hij] at hp
                subst hp
                have ZH := Lib.hid Z
                clear Z hij
                go_wp2
                go_meet
                case rel => exact ⟨by rw [ZH.out], rfl⟩
            case rest =>
              obtain ⟨rfl, rfl⟩ := hcut
              clear hp Z
              obtain ⟨r0, hr0⟩ : ∃ r, r = Ed.rb c (Ed.ds c) 0 (xs.drop i) (ys.drop j) := ⟨_, rfl⟩
              rw [← hr0]
              have HR0 := Lib.hid hr0
              clear hr0
              go_wp2
              go_loopw [10, 11] (fun s v wz => ∃ (k : Nat) (r : Int), s = .int .i64 r ∧ v = .int .u8 k ∧ 1 ≤ k ∧ k ≤ 6 ∧ Hid (r = Ed.rb c (Ed.ds c) (k - 1) (xs.drop i) (ys.drop j)) ∧ Hid (Below wc.heap.size wc wz)) (fun _ v _ => 6 - (intOf v).toNat)
              case atStart => exact ⟨1, r0, rfl, rfl, Nat.le_refl _, by omega, HR0.out, Below.refl _ _⟩
              case round =>
                obtain ⟨k, r, rfl, rfl, hk1, hk6, RE, BW⟩ := hrel
                by_cases hk5 : k ≤ 5
                · have R1 := R.out.quiet BW.out
                  obtain ⟨x0, x1, x2, x3⟩ := R1.box.cells
                  have FI : Hid (∀ W, Calls Try.prog 47 #[.int .u8 (k : Nat), .string (a.extract i a.size), .string (b.extract j b.size), cv c] W fun e w' => e = .returned (.tuple #[.bool (Ed.ft k (xs.drop i) (ys.drop j)), .int .i64 (Ed.tk k), .int .i64 (Ed.wr k), .int .i64 (Ed.co c k)]) ∧ Below W.heap.size W w') := fun W => by
                    rw [Ed.rest_is xs a i HXA.out, Ed.rest_is ys b j HXB.out]
                    exact rfits_any k ⟨hk1, hk5⟩ _ _ c W
                  obtain ⟨t, ht⟩ : ∃ t, t = Ed.tk k := ⟨_, rfl⟩
                  obtain ⟨u, hu⟩ : ∃ u, u = Ed.wr k := ⟨_, rfl⟩
                  obtain ⟨f, hf⟩ : ∃ f, f = Ed.ft k (xs.drop i) (ys.drop j) := ⟨_, rfl⟩
                  obtain ⟨co, hco⟩ : ∃ co, co = Ed.co c k := ⟨_, rfl⟩
                  rw [← ht, ← hu, ← hf, ← hco] at FI
                  have HT := Lib.hid ht
                  have HU := Lib.hid hu
                  have HF := Lib.hid hf
                  have HCO := Lib.hid hco
                  have q3 : (i : Int) ≤ a.size := by omega
                  have q4 : (j : Int) ≤ b.size := by omega
                  clear R1 ht hu hf hco
                  go_upto_region 15 with fail
                  have x0 : wr.drew.cell? ⟨w.heap.size, 0, none⟩ = some (.int .i64 c.ins) := x0
                  have x1 : wr.drew.cell? ⟨w.heap.size, 1, none⟩ = some (.int .i64 c.del) := x1
                  have x2 : wr.drew.cell? ⟨w.heap.size, 2, none⟩ = some (.int .i64 c.chg) := x2
                  have x3 : wr.drew.cell? ⟨w.heap.size, 3, none⟩ = some (.int .i64 c.swp) := x3
                  have gb : Below wr.heap.size wr wr.drew := (Below.refl _ _).drew
                  go_region_held3 (fun w' => w'.cell? ⟨w.heap.size, 0, none⟩ = some (.int .i64 c.ins) ∧ w'.cell? ⟨w.heap.size, 1, none⟩ = some (.int .i64 c.del) ∧ w'.cell? ⟨w.heap.size, 2, none⟩ = some (.int .i64 c.chg) ∧ w'.cell? ⟨w.heap.size, 3, none⟩ = some (.int .i64 c.swp)) (first | (refine ⟨?_, ?_, ?_, ?_⟩ <;> assumption) | skip)
                    (first | (go_at_call 47; (with_reducible refine (FI.out _).mono ?_); rintro e w5 ⟨rfl, b5⟩; have x0 := below_cell b5 x0; have x1 := below_cell b5 x1; have x2 := below_cell b5 x2; have x3 := below_cell b5 x3; have gb := gb.trans (b5.mono gb.size); clear b5))
                  have B5 := Lib.hid (BW.out.trans (gb.mono BW.out.size))
                  clear x0 x1 x2 x3 gb
                  cases f with
                  | false =>
                    have RS := Lib.hid (Ed.rb_same (c := c) (D := Ed.ds c) hk1 (fun h => by rw [← HF.out] at h; cases h.1))
                    go_wp2
                    go_roundw
                    case rel => exact ⟨k + 1, r, rfl, by go_num, by omega, by omega, RE.out.trans RS.out, B5.out⟩
                    case measure => simp [intOf]; omega
                  | true =>
                    have FL := Ed.ft_len HF.out.symm
                    have FS := Ed.ft_less HF.out.symm
                    rw [List.length_drop, List.length_drop, LA.out, LB.out, ← HT.out, ← HU.out] at FL
                    rw [List.length_drop, List.length_drop, List.length_drop, List.length_drop, LA.out, LB.out, ← HT.out, ← HU.out] at FS
                    have R5 := R.out.quiet B5.out
                    obtain ⟨g, m1, m2⟩ := R5.get (j := j) (fun j' h1 h2 => E.out j' (by omega) h2) (i + t) (j + u) (by omega) (by omega) (by omega) (by omega)
                    obtain ⟨d, hd⟩ : ∃ d, d = D (i + t) (j + u) := ⟨_, rfl⟩
                    rw [← hd] at m2
                    have hd2 : d = Ed.ds c ((xs.drop i).drop t) ((ys.drop j).drop u) := by rw [hd, HD.out, List.drop_drop, List.drop_drop]
                    have db := Ed.ds_bd HC.out ((xs.drop i).drop t) ((ys.drop j).drop u) (by rw [List.length_drop, List.length_drop, LA.out]; omega) (by rw [List.length_drop, List.length_drop, LB.out]; omega)
                    rw [← hd2] at db
                    have cb := Ed.co_nonneg HC.out k
                    rw [← HCO.out] at cb
                    have H2 : Hid (co + d = Ed.co c k + Ed.ds c ((xs.drop i).drop (Ed.tk k)) ((ys.drop j).drop (Ed.wr k))) := by show _ = _; rw [hd2, HCO.out, HT.out, HU.out]
                    have qs : IntKind.i64.wrap (co + d) = co + d := IntWalk.i64_in _ (by omega)
                    have q1 : IntKind.i64.wrap ((i : Int) + t) = (i : Int) + t := IntWalk.i64_in _ (by omega)
                    have q2 : IntKind.i64.wrap ((j : Int) + u) = (j : Int) + u := IntWalk.i64_in _ (by omega)
                    have z1 : (i : Int) + t < (a.size : Int) + 1 := by omega
                    have z2 : (j : Int) + u < (b.size : Int) + 1 := by omega
                    have p1 : ((i : Int) + t).toNat = i + t := by omega
                    have p2 : ((j : Int) + u).toNat = j + u := by omega
                    clear FL FS R5 hd hd2
                    by_cases hlt2 : r < 0 ∨ co + d < r
                    · have RM : Hid (co + d = Ed.rb c (Ed.ds c) (k + 1 - 1) (xs.drop i) (ys.drop j)) := by
                        show _ = _
                        rw [H2.out]
                        exact Ed.rb_more hk1 ⟨HF.out.symm, by rw [← H2.out, ← RE.out]; exact hlt2⟩
                      by_cases h0 : r < 0
                      · clear hlt2
                        go_wp2
                        go_roundw
                        case rel => exact ⟨k + 1, co + d, rfl, by go_num, by omega, by omega, RM.out, B5.out⟩
                        case measure => simp [intOf]; omega
                      · have h1 : co + d < r := hlt2.resolve_left h0
                        clear hlt2
                        go_wp2
                        go_roundw
                        case rel => exact ⟨k + 1, co + d, rfl, by go_num, by omega, by omega, RM.out, B5.out⟩
                        case measure => simp [intOf]; omega
                    · have RS := Lib.hid (Ed.rb_same (c := c) (D := Ed.ds c) hk1 (fun h => hlt2 (by have := h.2; rw [← H2.out, ← RE.out] at this; exact this)))
                      have h0 : ¬ r < 0 := fun e => hlt2 (Or.inl e)
                      have h1 : ¬ co + d < r := fun e => hlt2 (Or.inr e)
                      clear hlt2
                      go_wp2
                      go_roundw
                      case rel => exact ⟨k + 1, r, rfl, by go_num, by omega, by omega, RE.out.trans RS.out, B5.out⟩
                      case measure => simp [intOf]; omega
                · obtain rfl : k = 6 := by omega
                  have R6 := R.out.quiet BW.out
                  have DD : Hid (r = D i j) := by
                    show _ = _
                    rw [RE.out, HD.out]
                    exact Ed.rb_ds HC.out (by rw [List.length_drop, LA.out]; omega) (by rw [List.length_drop, LB.out]; omega)
                  have m1 := R6.here
                  have m2 := R6.row.cell hj
                  have m3 := R6.row.free j
                  have z2 : (j : Int) < (b.size : Int) + 1 := by omega
                  have P6 := Lib.hid (R6.put j r)
                  clear R6
                  go_wp2
                  go_roundw
                  case rel =>
                    refine ⟨(j : Int) - 1, by go_num, by omega, by omega, _, P6.out, fun j' h1 h2 => ?_⟩
                    by_cases e : j' = j
                    · rw [e]; rw [if_pos rfl]; exact DD.out
                    · rw [if_neg e]; exact E.out j' (by omega) h2
                  case measure => simp [intOf]
        · obtain rfl : z = -1 := by omega
          have TD := Lib.hid (R.out.done fun j' h => E.out j' (by omega) h)
          go_wp2
          go_roundw
          case rel => exact ⟨(i : Int) - 1, by go_num, by omega, by omega, by rw [show ((i : Int) - 1 + 1).toNat = i by omega]; exact TD.out⟩
          case measure => simp [intOf]
    · obtain rfl : z = -1 := by omega
      have TE : Hid (Tb c q a.size b.size D w wr 0) := I.out
      go_wp2
      go_ret
      rw [← Q.out]
      exact ⟨rfl, TE.out⟩
end Go.Proofs.Ytalldnnegofdkaa
