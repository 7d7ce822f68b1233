/- 'awake' of the statements answers true: the walk. -/
import Derived.Test.YtjfopggpohakkaaSq
namespace Go.Proofs.Ytjfopggpohakkaa
open Go.RowKit
open Go.Maps (Keyed)

theorem sl4 (w : World) (c : Nat) : Sl (w.alloc (.cells #[.int .i64 5, .int .i64 1, .int .i64 4, .int .i64 2] 3)) (.slice (some ⟨w.heap.size, 0, none⟩) 4 c) [5, 1, 4, 2] :=
  ⟨_, c, rfl, Or.inr ⟨_, 0, rfl, fun j hj => by
    match j, hj with
    | 0, _ => exact cell_at _ _ _ 0 _ _ rfl rfl
    | 1, _ => exact cell_at _ _ _ 1 _ _ rfl rfl
    | 2, _ => exact cell_at _ _ _ 2 _ _ rfl rfl
    | 3, _ => exact cell_at _ _ _ 3 _ _ rfl rfl⟩⟩
set_option maxRecDepth 100000 in
set_option maxHeartbeats 6400000 in
theorem awake4_any (w : World) : Calls Try.prog 14 #[] w fun e w' => e = .returned (.bool true) ∧ Below w.heap.size w w' := by
  have C1 : Hid (∀ w', Calls Try.prog 32 #[.int .i64 5, .int .i64 2] w' (NumE 10 0 w')) := fun w' => choose_any 5 2 w'
  have C2 : Hid (∀ w', Calls Try.prog 22 #[.int .i64 2, .int .i64 1, .int .i64 2500] w' (NumE 37500000 0 w')) := fun w' => chance_any 2 1 2500 w'
  have C3 : Hid (∀ w', Calls Try.prog 28 #[.int .i64 2, .int .i64 1, .int .i64 2500] w' (NumE 43750000 0 w')) := fun w' => upper_any 2 1 2500 w'
  have L1 : Hid (∀ w', Calls Try.prog 23 #[.int .i64 10, .int .i64 10, .int .i64 500] w' fun e w'' => e = .returned (.tuple #[.int .i64 7412, .int .i64 0]) ∧ Below w'.heap.size w' w'') := fun w' => by
    have := least_any 10 10 500 w'
    rw [show valB 10 10 500 = 7412 by unfold valB; rw [if_pos (by decide)]; exact low_a] at this; exact this
  have L2 : Hid (∀ w', Calls Try.prog 24 #[.int .i64 10, .int .i64 0, .int .i64 500] w' fun e w'' => e = .returned (.tuple #[.int .i64 2588, .int .i64 0]) ∧ Below w'.heap.size w' w'') := fun w' => by
    have := greatest_any 10 0 500 w'
    rw [show valG 10 0 500 = 2588 by unfold valG; rw [if_pos (by decide)]; show Bn.W - Bn.low 10 10 500 = _; rw [low_a]; rfl] at this; exact this
  have L3 : Hid (∀ w', Calls Try.prog 23 #[.int .i64 10, .int .i64 0, .int .i64 500] w' fun e w'' => e = .returned (.tuple #[.int .i64 0, .int .i64 0]) ∧ Below w'.heap.size w' w'') := fun w' => by
    have := least_any 10 0 500 w'
    rw [show valB 10 0 500 = 0 by unfold valB; rw [if_pos (by decide)]; exact low_b] at this; exact this
  have L4 : Hid (∀ w', Calls Try.prog 24 #[.int .i64 0, .int .i64 0, .int .i64 500] w' fun e w'' => e = .returned (.tuple #[.int .i64 10000, .int .i64 0]) ∧ Below w'.heap.size w' w'') := fun w' => by
    have := greatest_any 0 0 500 w'
    rw [show valG 0 0 500 = 10000 by unfold valG; rw [if_pos (by decide)]; show Bn.W - Bn.low 0 0 500 = _; rw [low_c]; rfl] at this; exact this
  have S1 : Hid (∀ v w', Dg w' v 10 → Calls Try.prog 30 #[v, .slice (some ⟨w'.heap.size, 0, none⟩) 1 1] (w'.alloc (.cells #[.int .u32 10] 55)) fun e w'' => e = .returned (.bool true) ∧ Below w'.heap.size w' w'') := same_lit4 10 10 (dig_one (by decide) (by decide)) (by decide) (by have := top_word; omega)
  have S2 : Hid (∀ v w', Dg w' v 37500000 → Calls Try.prog 30 #[v, .slice (some ⟨w'.heap.size, 0, none⟩) 1 1] (w'.alloc (.cells #[.int .u32 37500000] 55)) fun e w'' => e = .returned (.bool true) ∧ Below w'.heap.size w' w'') := same_lit4 37500000 37500000 (dig_one (by decide) (by decide)) (by decide) (by have := top_word; omega)
  have S3 : Hid (∀ v w', Dg w' v 43750000 → Calls Try.prog 30 #[v, .slice (some ⟨w'.heap.size, 0, none⟩) 1 1] (w'.alloc (.cells #[.int .u32 43750000] 55)) fun e w'' => e = .returned (.bool true) ∧ Below w'.heap.size w' w'') := same_lit4 43750000 43750000 (dig_one (by decide) (by decide)) (by decide) (by have := top_word; omega)
  have hmm := @run_makeMap Try.prog
  have B0 : Below w.heap.size w w := Below.refl _ _
  have KI : Keyed Try.prog 3 := Go.Maps.int_keyed Try.underlying3
  have PE : ∀ x, (Lit.int .i64 x).wf = true → plainElem (H := Unit) Try.prog 3 (.int .i64 x) = some (.lit (.int .i64 x), []) := fun x hx => plainElem_int Try.underlying3 hx
  go_enter Try.func14, Try.ntmps14
  go_wp2_with (first
    | (go_at_call 32; with_reducible refine (C1.out w).mono ?_; intro e w1 hq; obtain ⟨a1, k1, c1, rfl, D1, b1⟩ := NumE.out hq; clear hq; have B1 := B0.trans (b1.mono B0.size))
    | (go_at_call 22; with_reducible refine (C2.out w1).mono ?_; intro e w2 hq; obtain ⟨a2, k2, c2, rfl, D2, b2⟩ := NumE.out hq; clear hq; have B2 := B1.trans (b2.mono B1.size); have E1 := D1.below b2)
    | (go_at_call 28; with_reducible refine (C3.out w2).mono ?_; intro e w3 hq; obtain ⟨a3, k3, c3, rfl, D3, b3⟩ := NumE.out hq; clear hq; have B3 := B2.trans (b3.mono B2.size); have F1 := E1.below b3; have F2 := D2.below b3)
    | (go_at_call 30; with_reducible refine (S1.out _ w3 F1).mono ?_; rintro e w4 ⟨rfl, b4⟩; have B4 := B3.trans (b4.mono B3.size); have G2 := F2.below b4; have G3 := D3.below b4)
    | (go_at_call 30; with_reducible refine (S2.out _ w4 G2).mono ?_; rintro e w5 ⟨rfl, b5⟩; have B5 := B4.trans (b5.mono B4.size); have H3 := G3.below b5)
    | (go_at_call 30; with_reducible refine (S3.out _ w5 H3).mono ?_; rintro e w6 ⟨rfl, b6⟩; have B6 := B5.trans (b6.mono B5.size))
    | (go_at_call 23; with_reducible refine (L1.out w6).mono ?_; rintro e w7 ⟨rfl, b7⟩; have B7 := B6.trans (b7.mono B6.size))
    | (go_at_call 24; with_reducible refine (L2.out w7).mono ?_; rintro e w8 ⟨rfl, b8⟩; have B8 := B7.trans (b8.mono B7.size))
    | (go_at_call 23; with_reducible refine (L3.out w8).mono ?_; rintro e w9 ⟨rfl, b9⟩; have B9 := B8.trans (b9.mono B8.size))
    | (go_at_call 24; with_reducible refine (L4.out w9).mono ?_; rintro e w10 ⟨rfl, b10⟩; have BT := B9.trans (b10.mono B9.size); have own0 := World.ownsMap_made w10 Try.prog 3 (plainElem (H := Unit) Try.prog 3))
    | (refine insert_lit _ rfl _ _ _ 56 rfl 3 3 KI Try.underlying56 _ _ _ _ rfl own0 (by unfold maxLen; omega) _ _ _ rfl rfl (Go.Maps.keyOf_int_mk Try.underlying3 rfl) _ _ (PE 1 rfl) ?_; intro w11 own1 gr1; clear own0)
    | (refine insert_lit _ rfl _ _ _ 56 rfl 3 3 KI Try.underlying56 _ _ _ _ rfl own1 (by unfold maxLen; omega) _ _ _ rfl rfl (Go.Maps.keyOf_int_mk Try.underlying3 rfl) _ _ (PE 2 rfl) ?_; intro w12 own2 gr2; clear own1)
    | (refine insert_lit _ rfl _ _ _ 56 rfl 3 3 KI Try.underlying56 _ _ _ _ rfl own2 (by unfold maxLen; omega) _ _ _ rfl rfl (Go.Maps.keyOf_int_mk Try.underlying3 rfl) _ _ (PE 5 rfl) ?_; intro w13 own3 gr3; clear own2)
    | (refine insert_lit _ rfl _ _ _ 56 rfl 3 3 KI Try.underlying56 _ _ _ _ rfl own3 (by unfold maxLen; omega) _ _ _ rfl rfl (Go.Maps.keyOf_int_mk Try.underlying3 rfl) _ _ (PE 5 rfl) ?_; intro w14 own4 gr4; clear own3)
    | (at_range; refine wpList_range_own _ rfl _ 56 rfl 3 3 KI Try.underlying56 _ _ _ _ rfl own4 ?_; intro w15 hrg0 hg0 hs0)
    | go_in)
  have BW : Hid (Below w.heap.size w w15) := by
    have s : w.heap.size ≤ w10.heap.size := BT.size
    have x0 := BT.alloc BT.size (.map #[] 0)
    have x1 := x0.grown gr1 x0.size (fun k hk => by cases hk; exact s)
    have x2 := x1.grown gr2 x1.size (fun k hk => by cases hk; exact s)
    have x3 := x2.grown gr3 x2.size (fun k hk => by cases hk; exact s)
    have x4 := x3.grown gr4 x3.size (fun k hk => by cases hk; exact s)
    exact x4.grown hg0 x4.size (fun k hk => by cases hk)
  have HS : Hid (w.heap.size ≤ w14.heap.size) := by
    have s : w.heap.size ≤ w10.heap.size := BT.size
    have x0 := BT.alloc BT.size (.map #[] 0)
    have x1 := x0.grown gr1 x0.size (fun k hk => by cases hk; exact s)
    have x2 := x1.grown gr2 x1.size (fun k hk => by cases hk; exact s)
    have x3 := x2.grown gr3 x2.size (fun k hk => by cases hk; exact s)
    have x4 := x3.grown gr4 x3.size (fun k hk => by cases hk; exact s)
    exact x4.size
  have RG := Lib.hid (dq_put ▸ hrg0)
  obtain ⟨b, hb⟩ : ∃ b, b = w10.heap.size := ⟨_, rfl⟩
  obtain ⟨r, hr⟩ : ∃ r, r = w14.heap.size := ⟨_, rfl⟩
  rw [← hr] at RG HS ⊢
  rw [← hb] at RG
  have Q := Lib.hid (fun q w' => quantile_any (.slice (some ⟨w'.heap.size, 0, none⟩) 4 4) [5, 1, 4, 2] q (w'.alloc (.cells #[.int .i64 5, .int .i64 1, .int .i64 4, .int .i64 2] 3)) (sl4 w' 4))
  clear hrg0 hg0 hs0 gr1 gr2 gr3 gr4 own4 hr hb BT B0 B1 B2 B3 B4 B5 B6 B7 B8 B9 b1 b2 b3 b4 b5 b6 b7 b8 b9 b10 D1 D2 D3 E1 F1 F2 G2 G3 H3 C1 C2 C3 L1 L2 L3 L4 S1 S2 S3 PE hmm
  go_frame
  go_loopw [12] (fun _ wr => ∃ (left : Lit → Bool) (cnt : Nat), wr.ranges Try.prog 3 (plainElem (H := Unit) Try.prog 3) b r 4 Dq left cnt ∧ Hid (∀ kl, left kl = true → Go.Maps.has Dq kl = true) ∧ Hid (Below w.heap.size w wr)) (fun _ wr => wr.rangeLeft b r)
  case atStart => exact ⟨_, _, RG.out, (show ∀ kl, _ → _ from fun _ h => h), BW⟩
  case round =>
    obtain ⟨left, cnt, hrg, hl, hB⟩ := hrel
    go_wp2_with (first
      | (at_next; refine wpList_next_ranges_ii _ rfl _ rfl 3 3 .i64 .i64 KI Try.underlying3 Try.underlying3 b r 4 _ _ _ rfl hrg ?_ ?_)
      | go_in)
    · intro _ hl0
      go_wp2
      go_ret
      exact ⟨rfl, hB.out⟩
    · intro x c w1 cnt1 hwx hwc hlx hat hrg1 hlt hg1 hs1 hen
      have DA := Lib.hid (dq_at (hl.out _ hlx) hat)
      have B1 : Hid (Below w.heap.size w w1) := hB.out.grown hg1 hB.out.size (fun k hk => by cases hk; exact HS.out)
      have QC : Hid (Calls Try.prog 37 #[.slice (some ⟨w1.heap.size, 0, none⟩) 4 4, .int .i64 x] (w1.alloc (.cells #[.int .i64 5, .int .i64 1, .int .i64 4, .int .i64 2] 3)) fun e w' => e = .returned (.tuple #[.int .i64 c, .int .i64 0]) ∧ Below w1.heap.size w1 w') := by
        have := Q.out x w1
        rw [DA.out.1, show qE ([5, 1, 4, 2] : List Int).length x = 0 from DA.out.2] at this
        have b0 : Below w1.heap.size w1 (w1.alloc (.cells #[.int .i64 5, .int .i64 1, .int .i64 4, .int .i64 2] 3)) := (Below.refl _ w1).alloc (Nat.le_refl _) _
        exact Calls.mono this fun e w' ⟨h1, h2⟩ => ⟨h1, b0.trans (h2.mono b0.size)⟩
      clear hat hlx hwx hwc Q DA hs1 hg1
      go_wp2_with (go_at_call 37; with_reducible refine QC.out.mono ?_; rintro e w2 ⟨rfl, b2⟩)
      have hrg2 := hrg1.kept (grown_of b2) (by simp) (by simp)
      go_roundw
      case rel => exact ⟨_, cnt1, hrg2, (show ∀ kl, _ → _ from fun kl h => hl.out kl (by simp only [Bool.and_eq_true] at h; exact h.1)), (show Below _ _ _ from B1.out.trans (b2.mono B1.out.size))⟩
      case measure => rw [hrg2.left_eq, hrg.left_eq]; exact hlt
end Go.Proofs.Ytjfopggpohakkaa
