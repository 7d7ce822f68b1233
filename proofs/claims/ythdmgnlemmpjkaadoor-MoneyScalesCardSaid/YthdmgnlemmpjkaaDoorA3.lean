/- Contracts of money's roundings and Share. -/
import Derived.Test.YthdmgnlemmpjkaaDoorA2
namespace Go.Proofs.YthdmgnlemmpjkaaDoor
open Go.RowKit
open Go.Maps (Keyed)

set_option maxRecDepth 100000 in
set_option maxHeartbeats 1600000 in
theorem roundings_any (q r : Int) (w : World) : Calls Tryd.prog 34 #[.int .i64 q, .int .i64 r] w fun e w' => ∃ b p1 p2 p3, e = .returned (.map (some b)) ∧ w'.ownsMap Tryd.prog 5 (Rr p1 p2 p3) b 4 Dm ∧ Cap w' p1 p2 p3 q r ∧ Below w.heap.size w w' := by
  have hmm := @run_makeMap Tryd.prog
  have hmf : ∀ (fn : Fn) (first cap : Array Value) (w : World), (Instr.makeFunc fn first cap).run Tryd.prog w = .ok (.func fn first cap) w := fun _ _ _ _ => rfl
  obtain ⟨p3, h3⟩ : ∃ p : Addr, p = ⟨w.heap.size, 0, none⟩ := ⟨_, rfl⟩
  obtain ⟨p2, h2⟩ : ∃ p : Addr, p = ⟨w.heap.size + 1, 0, none⟩ := ⟨_, rfl⟩
  obtain ⟨p1, h1⟩ : ∃ p : Addr, p = ⟨w.heap.size + 1 + 1, 0, none⟩ := ⟨_, rfl⟩
  subst h1 h2 h3
  have own0 : ((((w.alloc (Obj.cells #[.int .i64 q] 3)).alloc (Obj.cells #[.int .i64 r] 3)).alloc (Obj.cells #[.func (.func 40) #[] #[]] 78)).alloc (Obj.map #[] 0)).ownsMap Tryd.prog 5 (Rr ⟨w.heap.size + 1 + 1, 0, none⟩ ⟨w.heap.size + 1, 0, none⟩ ⟨w.heap.size, 0, none⟩) (w.heap.size + 1 + 1 + 1) 0 (.map []) := by
    have := World.ownsMap_made (((w.alloc (Obj.cells #[.int .i64 q] 3)).alloc (Obj.cells #[.int .i64 r] 3)).alloc (Obj.cells #[.func (.func 40) #[] #[]] 78)) Tryd.prog 5 (Rr ⟨w.heap.size + 1 + 1, 0, none⟩ ⟨w.heap.size + 1, 0, none⟩ ⟨w.heap.size, 0, none⟩)
    simpa using this
  have cap0 : Cap ((((w.alloc (Obj.cells #[.int .i64 q] 3)).alloc (Obj.cells #[.int .i64 r] 3)).alloc (Obj.cells #[.func (.func 40) #[] #[]] 78)).alloc (Obj.map #[] 0)) ⟨w.heap.size + 1 + 1, 0, none⟩ ⟨w.heap.size + 1, 0, none⟩ ⟨w.heap.size, 0, none⟩ q r := by
    refine ⟨cell_in _ (cell_at _ _ _ 0 _ _ (by simp) rfl), cell_in _ (cell_in _ (cell_at _ _ _ 0 _ _ (by simp) rfl)), cell_in _ (cell_in _ (cell_in _ (cell_at _ _ _ 0 _ _ rfl rfl)))⟩
  have b0 : Below w.heap.size w ((((w.alloc (Obj.cells #[.int .i64 q] 3)).alloc (Obj.cells #[.int .i64 r] 3)).alloc (Obj.cells #[.func (.func 40) #[] #[]] 78)).alloc (Obj.map #[] 0)) := by
    go_grown
  have CAP := Lib.hid cap0
  have BL := Lib.hid b0
  clear cap0 b0
  go_enter Tryd.func34, Tryd.ntmps34
  go_wp2_with (first | (refine wpList_insert_at _ rfl _ _ _ 68 rfl 5 66 keyU8 Tryd.underlying68 _ _ _ _ rfl own0 (by unfold maxLen; omega) _ _ _ rfl rfl (Go.Maps.keyOf_int_mk Tryd.underlying5 rfl) _ _ (rr_1 _ _ _) ?_; intro w1 own1 gr1; clear own0) | (refine wpList_insert_at _ rfl _ _ _ 68 rfl 5 66 keyU8 Tryd.underlying68 _ _ _ _ rfl own1 (by unfold maxLen; omega) _ _ _ rfl rfl (Go.Maps.keyOf_int_mk Tryd.underlying5 rfl) _ _ (rr_2 _ _ _) ?_; intro w2 own2 gr2; clear own1) | (refine wpList_insert_at _ rfl _ _ _ 68 rfl 5 66 keyU8 Tryd.underlying68 _ _ _ _ rfl own2 (by unfold maxLen; omega) _ _ _ rfl rfl (Go.Maps.keyOf_int_mk Tryd.underlying5 rfl) _ _ (rr_3 _ _ _) ?_; intro w3 own3 gr3; clear own2) | (refine wpList_insert_at _ rfl _ _ _ 68 rfl 5 66 keyU8 Tryd.underlying68 _ _ _ _ rfl own3 (by unfold maxLen; omega) _ _ _ rfl rfl (Go.Maps.keyOf_int_mk Tryd.underlying5 rfl) _ _ (rr_4 _ _ _) ?_; intro w4 own4 gr4; clear own3))
  go_ret
  have hs : w.heap.size ≤ ((((w.alloc (Obj.cells #[.int .i64 q] 3)).alloc (Obj.cells #[.int .i64 r] 3)).alloc (Obj.cells #[.func (.func 40) #[] #[]] 78)).alloc (Obj.map #[] 0)).heap.size := BL.out.size
  have bl : ∀ {wa wb : World}, Below w.heap.size w wa → wa.grownBy wb (some (w.heap.size + 1 + 1 + 1)) → Below w.heap.size w wb := fun ha hg => ha.grown hg ha.size (fun k hk => by cases hk; omega)
  have cp : ∀ {wa wb : World}, Cap wa ⟨w.heap.size + 1 + 1, 0, none⟩ ⟨w.heap.size + 1, 0, none⟩ ⟨w.heap.size, 0, none⟩ q r → wa.grownBy wb (some (w.heap.size + 1 + 1 + 1)) → Cap wb ⟨w.heap.size + 1 + 1, 0, none⟩ ⟨w.heap.size + 1, 0, none⟩ ⟨w.heap.size, 0, none⟩ q r := fun ha hg =>
    ⟨hg.cell ha.one (by simp), hg.cell ha.rest (by simp), hg.cell ha.down (by simp; omega)⟩
  exact ⟨_, _, _, _, rfl, dm_put ▸ own4, cp (cp (cp (cp CAP.out gr1) gr2) gr3) gr4, bl (bl (bl (bl BL.out gr1) gr2) gr3) gr4⟩
theorem Cap.below {w w' : World} {p1 p2 p3 : Addr} {q r : Int} (h : Cap w p1 p2 p3 q r) (hb : Below w.heap.size w w') : Cap w' p1 p2 p3 q r :=
  ⟨(hb.cell (World.block_lt_of_cell? _ _ h.one)).trans h.one, (hb.cell (World.block_lt_of_cell? _ _ h.rest)).trans h.rest, (hb.cell (World.block_lt_of_cell? _ _ h.down)).trans h.down⟩
set_option maxRecDepth 100000 in
set_option maxHeartbeats 1600000 in
theorem share_1 (c s : Int) (w : World) (h1 : -1000000000000000 ≤ c) (h2 : c ≤ 1000000000000000) (h3 : 0 ≤ s) (h4 : s ≤ 10000) :
    Calls Tryd.prog 18 #[.int .i64 c, .int .i64 s, .int .u8 1] w fun e w' => e = .returned (.tuple #[.int .i64 (Mny.rnd (c * s) 1), .int .i64 0]) ∧ Below w.heap.size w w' := by
  have R := Lib.hid (fun w => right_b c true w ((Mny.rt_iff c).2 ⟨h1, h2⟩))
  have P := Lib.hid (fun w => part_any c s 10000 w h1 h2 (by omega) (by omega) h3 (by omega) h4)
  have qb := Mny.q_bd (c := c) (n := s) (w := 10000) (m := 1000000000000000) (by omega) h3 h4 h1 h2 (by omega)
  obtain ⟨q, hq⟩ : ∃ q, q = c * s / 10000 := ⟨_, rfl⟩
  obtain ⟨r, hr⟩ : ∃ r, r = c * s % 10000 := ⟨_, rfl⟩
  have r0 : 0 ≤ r := by omega
  have r1 : r < 10000 := by omega
  rw [← hq, ← hr] at P
  rw [← hq] at qb
  have F : Hid (q + Mny.ad 1 q r = Mny.rnd (c * s) 1) := by
    show _ = _; unfold Mny.rnd; rw [← hq, ← hr]
  have ab := Mny.ad_bd 1 q r
  obtain ⟨x, hx⟩ : ∃ x, x = Mny.ad 1 q r := ⟨_, rfl⟩
  rw [← hx] at ab F
  have HX := Lib.hid hx
  obtain ⟨ab1, ab2⟩ := ab
  obtain ⟨qb1, qb2⟩ := qb
  clear hq hr hx
  go_enter Tryd.func18, Tryd.ntmps18
  go_wp2_with (first | (go_at_call 23; refine (R.out _).mono ?_; rintro e w' ⟨rfl, rfl⟩)  | (go_at_call 33; refine (P.out _).mono ?_; rintro e w1 ⟨rfl, Q1⟩; have q1 := Q1.bl)  | (go_at_call 34; refine (roundings_any _ _ _).mono ?_; rintro e w2 ⟨b, p1, p2, p3, rfl, own, cap, q2⟩)  | (at_lookup; refine wpList_lookup_own_ok _ rfl _ _ 68 rfl 5 66 keyU8 Tryd.underlying68 _ (zeroF _) (num 0) [] (rr_0 _ _ _) _ _ _ rfl own _ _ rfl (Go.Maps.keyOf_int_mk Tryd.underlying5 rfl) ?_; intro v ps hv; rw [(dm_yes _ (by omega)).2] at hv; rw [(dm_yes _ (by omega)).1]; obtain rfl := (rr_inv hv).1 rfl; clear hv)  | (go_at_call 41; refine (down_any _).mono ?_; rintro e w3 ⟨rfl, rfl⟩))
  go_ret2
  exact ⟨ret_ii ((by have := HX.out; simp [Mny.ad] at this; omega : _ = q + x).trans F.out) rfl, q1.trans (q2.mono q1.size)⟩
set_option maxRecDepth 100000 in
set_option maxHeartbeats 1600000 in
theorem share_2 (c s : Int) (w : World) (h1 : -1000000000000000 ≤ c) (h2 : c ≤ 1000000000000000) (h3 : 0 ≤ s) (h4 : s ≤ 10000) :
    Calls Tryd.prog 18 #[.int .i64 c, .int .i64 s, .int .u8 2] w fun e w' => e = .returned (.tuple #[.int .i64 (Mny.rnd (c * s) 2), .int .i64 0]) ∧ Below w.heap.size w w' := by
  have R := Lib.hid (fun w => right_b c true w ((Mny.rt_iff c).2 ⟨h1, h2⟩))
  have P := Lib.hid (fun w => part_any c s 10000 w h1 h2 (by omega) (by omega) h3 (by omega) h4)
  have qb := Mny.q_bd (c := c) (n := s) (w := 10000) (m := 1000000000000000) (by omega) h3 h4 h1 h2 (by omega)
  obtain ⟨q, hq⟩ : ∃ q, q = c * s / 10000 := ⟨_, rfl⟩
  obtain ⟨r, hr⟩ : ∃ r, r = c * s % 10000 := ⟨_, rfl⟩
  have r0 : 0 ≤ r := by omega
  have r1 : r < 10000 := by omega
  rw [← hq, ← hr] at P
  rw [← hq] at qb
  have F : Hid (q + Mny.ad 2 q r = Mny.rnd (c * s) 2) := by
    show _ = _; unfold Mny.rnd; rw [← hq, ← hr]
  have ab := Mny.ad_bd 2 q r
  obtain ⟨x, hx⟩ : ∃ x, x = Mny.ad 2 q r := ⟨_, rfl⟩
  rw [← hx] at ab F
  have HX := Lib.hid hx
  obtain ⟨ab1, ab2⟩ := ab
  obtain ⟨qb1, qb2⟩ := qb
  clear hq hr hx
  go_enter Tryd.func18, Tryd.ntmps18
  go_wp2_with (first | (go_at_call 23; refine (R.out _).mono ?_; rintro e w' ⟨rfl, rfl⟩)  | (go_at_call 33; refine (P.out _).mono ?_; rintro e w1 ⟨rfl, Q1⟩; have q1 := Q1.bl)  | (go_at_call 34; refine (roundings_any _ _ _).mono ?_; rintro e w2 ⟨b, p1, p2, p3, rfl, own, cap, q2⟩)  | (at_lookup; refine wpList_lookup_own_ok _ rfl _ _ 68 rfl 5 66 keyU8 Tryd.underlying68 _ (zeroF _) (num 0) [] (rr_0 _ _ _) _ _ _ rfl own _ _ rfl (Go.Maps.keyOf_int_mk Tryd.underlying5 rfl) ?_; intro v ps hv; rw [(dm_yes _ (by omega)).2] at hv; rw [(dm_yes _ (by omega)).1]; obtain rfl := (rr_inv hv).2.1 rfl; clear hv)  | (go_at_call 42; refine (up_any _ _ _ q r _ cap).mono ?_; rw [← HX.out]; rintro e w3 ⟨rfl, rfl⟩))
  go_ret2
  exact ⟨ret_ii (F.out) rfl, q1.trans (q2.mono q1.size)⟩
set_option maxRecDepth 100000 in
set_option maxHeartbeats 1600000 in
theorem share_3 (c s : Int) (w : World) (h1 : -1000000000000000 ≤ c) (h2 : c ≤ 1000000000000000) (h3 : 0 ≤ s) (h4 : s ≤ 10000) :
    Calls Tryd.prog 18 #[.int .i64 c, .int .i64 s, .int .u8 3] w fun e w' => e = .returned (.tuple #[.int .i64 (Mny.rnd (c * s) 3), .int .i64 0]) ∧ Below w.heap.size w w' := by
  have R := Lib.hid (fun w => right_b c true w ((Mny.rt_iff c).2 ⟨h1, h2⟩))
  have P := Lib.hid (fun w => part_any c s 10000 w h1 h2 (by omega) (by omega) h3 (by omega) h4)
  have qb := Mny.q_bd (c := c) (n := s) (w := 10000) (m := 1000000000000000) (by omega) h3 h4 h1 h2 (by omega)
  obtain ⟨q, hq⟩ : ∃ q, q = c * s / 10000 := ⟨_, rfl⟩
  obtain ⟨r, hr⟩ : ∃ r, r = c * s % 10000 := ⟨_, rfl⟩
  have r0 : 0 ≤ r := by omega
  have r1 : r < 10000 := by omega
  rw [← hq, ← hr] at P
  rw [← hq] at qb
  have F : Hid (q + Mny.ad 3 q r = Mny.rnd (c * s) 3) := by
    show _ = _; unfold Mny.rnd; rw [← hq, ← hr]
  have ab := Mny.ad_bd 3 q r
  obtain ⟨x, hx⟩ : ∃ x, x = Mny.ad 3 q r := ⟨_, rfl⟩
  rw [← hx] at ab F
  have HX := Lib.hid hx
  obtain ⟨ab1, ab2⟩ := ab
  obtain ⟨qb1, qb2⟩ := qb
  clear hq hr hx
  go_enter Tryd.func18, Tryd.ntmps18
  go_wp2_with (first | (go_at_call 23; refine (R.out _).mono ?_; rintro e w' ⟨rfl, rfl⟩)  | (go_at_call 33; refine (P.out _).mono ?_; rintro e w1 ⟨rfl, Q1⟩; have q1 := Q1.bl)  | (go_at_call 34; refine (roundings_any _ _ _).mono ?_; rintro e w2 ⟨b, p1, p2, p3, rfl, own, cap, q2⟩)  | (at_lookup; refine wpList_lookup_own_ok _ rfl _ _ 68 rfl 5 66 keyU8 Tryd.underlying68 _ (zeroF _) (num 0) [] (rr_0 _ _ _) _ _ _ rfl own _ _ rfl (Go.Maps.keyOf_int_mk Tryd.underlying5 rfl) ?_; intro v ps hv; rw [(dm_yes _ (by omega)).2] at hv; rw [(dm_yes _ (by omega)).1]; obtain rfl := (rr_inv hv).2.2.1 rfl; clear hv)  | (go_at_call 43; refine (half_any _ _ _ q r _ cap r0 r1).mono ?_; rw [← HX.out]; rintro e w3 ⟨rfl, rfl⟩))
  go_ret2
  exact ⟨ret_ii (F.out) rfl, q1.trans (q2.mono q1.size)⟩
set_option maxRecDepth 100000 in
set_option maxHeartbeats 1600000 in
theorem share_4 (c s : Int) (w : World) (h1 : -1000000000000000 ≤ c) (h2 : c ≤ 1000000000000000) (h3 : 0 ≤ s) (h4 : s ≤ 10000) :
    Calls Tryd.prog 18 #[.int .i64 c, .int .i64 s, .int .u8 4] w fun e w' => e = .returned (.tuple #[.int .i64 (Mny.rnd (c * s) 4), .int .i64 0]) ∧ Below w.heap.size w w' := by
  have R := Lib.hid (fun w => right_b c true w ((Mny.rt_iff c).2 ⟨h1, h2⟩))
  have P := Lib.hid (fun w => part_any c s 10000 w h1 h2 (by omega) (by omega) h3 (by omega) h4)
  have qb := Mny.q_bd (c := c) (n := s) (w := 10000) (m := 1000000000000000) (by omega) h3 h4 h1 h2 (by omega)
  obtain ⟨q, hq⟩ : ∃ q, q = c * s / 10000 := ⟨_, rfl⟩
  obtain ⟨r, hr⟩ : ∃ r, r = c * s % 10000 := ⟨_, rfl⟩
  have r0 : 0 ≤ r := by omega
  have r1 : r < 10000 := by omega
  rw [← hq, ← hr] at P
  rw [← hq] at qb
  have F : Hid (q + Mny.ad 4 q r = Mny.rnd (c * s) 4) := by
    show _ = _; unfold Mny.rnd; rw [← hq, ← hr]
  have ab := Mny.ad_bd 4 q r
  obtain ⟨x, hx⟩ : ∃ x, x = Mny.ad 4 q r := ⟨_, rfl⟩
  rw [← hx] at ab F
  have HX := Lib.hid hx
  obtain ⟨ab1, ab2⟩ := ab
  obtain ⟨qb1, qb2⟩ := qb
  clear hq hr hx
  go_enter Tryd.func18, Tryd.ntmps18
  go_wp2_with (first | (go_at_call 23; refine (R.out _).mono ?_; rintro e w' ⟨rfl, rfl⟩)  | (go_at_call 33; refine (P.out _).mono ?_; rintro e w1 ⟨rfl, Q1⟩; have q1 := Q1.bl)  | (go_at_call 34; refine (roundings_any _ _ _).mono ?_; rintro e w2 ⟨b, p1, p2, p3, rfl, own, cap, q2⟩)  | (at_lookup; refine wpList_lookup_own_ok _ rfl _ _ 68 rfl 5 66 keyU8 Tryd.underlying68 _ (zeroF _) (num 0) [] (rr_0 _ _ _) _ _ _ rfl own _ _ rfl (Go.Maps.keyOf_int_mk Tryd.underlying5 rfl) ?_; intro v ps hv; rw [(dm_yes _ (by omega)).2] at hv; rw [(dm_yes _ (by omega)).1]; obtain rfl := (rr_inv hv).2.2.2 rfl; clear hv)  | (go_at_call 44; refine (even_any _ _ _ q r _ cap r0 r1).mono ?_; rw [← HX.out]; rintro e w3 ⟨rfl, rfl⟩))
  go_ret2
  exact ⟨ret_ii (F.out) rfl, q1.trans (q2.mono q1.size)⟩
theorem share_ok (c s way : Int) (w : World) (h1 : -1000000000000000 ≤ c) (h2 : c ≤ 1000000000000000) (h3 : 0 ≤ s) (h4 : s ≤ 10000) (h5 : 1 ≤ way) (h6 : way ≤ 4) :
    Calls Tryd.prog 18 #[.int .i64 c, .int .i64 s, .int .u8 way] w fun e w' => e = .returned (.tuple #[.int .i64 (Mny.rnd (c * s) way), .int .i64 0]) ∧ Below w.heap.size w w' := by
  have : way = 1 ∨ way = 2 ∨ way = 3 ∨ way = 4 := by omega
  rcases this with rfl | rfl | rfl | rfl
  · exact share_1 c s w h1 h2 h3 h4
  · exact share_2 c s w h1 h2 h3 h4
  · exact share_3 c s w h1 h2 h3 h4
  · exact share_4 c s w h1 h2 h3 h4
set_option maxRecDepth 100000 in
set_option maxHeartbeats 1600000 in
theorem share_bad (c s way : Int) (w : World) (y1 : 0 ≤ way) (y2 : way ≤ 255) (h : Mny.rt c = false ∨ s < 0 ∨ 10000 < s ∨ way < 1 ∨ 4 < way) :
    Calls Tryd.prog 18 #[.int .i64 c, .int .i64 s, .int .u8 way] w fun e w' => e = .returned (.tuple #[.int .i64 0, .int .i64 2]) ∧ Below w.heap.size w w' := by
  cases hc : Mny.rt c
  · have R := Lib.hid (fun w => right_b c false w hc)
    clear hc h
    go_enter Tryd.func18, Tryd.ntmps18
    go_wp2_with (go_at_call 23; refine (R.out _).mono ?_; rintro e w' ⟨rfl, rfl⟩)
    go_ret2
    exact ⟨rfl, Below.refl _ _⟩
  · have R := Lib.hid (fun w => right_b c true w hc)
    by_cases s1 : s < 0
    · clear hc h
      go_enter Tryd.func18, Tryd.ntmps18
      go_wp2_with (go_at_call 23; refine (R.out _).mono ?_; rintro e w' ⟨rfl, rfl⟩)
      go_ret2
      exact ⟨rfl, Below.refl _ _⟩
    by_cases s2 : 10000 < s
    · clear hc h
      go_enter Tryd.func18, Tryd.ntmps18
      go_wp2_with (go_at_call 23; refine (R.out _).mono ?_; rintro e w' ⟨rfl, rfl⟩)
      go_ret2
      exact ⟨rfl, Below.refl _ _⟩
    have hc' := (Mny.rt_iff c).1 hc
    have hw : way < 1 ∨ 4 < way := by
      rcases h with h | h | h | h | h
      · rw [hc] at h; cases h
      all_goals omega
    have HH := Lib.hid (dm_no way hw)
    have wf : (Lit.int .u8 way).wf = true := by simp [Lit.wf, IntKind.min, IntKind.max, IntKind.signed, IntKind.bits]; omega
    have P := Lib.hid (fun w => part_any c s 10000 w hc'.1 hc'.2 (by omega) (by omega) (by omega) (by omega) (by omega))
    obtain ⟨q, hq⟩ : ∃ q, q = c * s / 10000 := ⟨_, rfl⟩
    obtain ⟨r, hr⟩ : ∃ r, r = c * s % 10000 := ⟨_, rfl⟩
    rw [← hq, ← hr] at P
    clear hq hr hc hc' h hw
    go_enter Tryd.func18, Tryd.ntmps18
    go_wp2_with (first | (go_at_call 23; refine (R.out _).mono ?_; rintro e w' ⟨rfl, rfl⟩)  | (go_at_call 33; refine (P.out _).mono ?_; rintro e w1 ⟨rfl, Q1⟩; have q1 := Q1.bl)  | (go_at_call 34; refine (roundings_any _ _ _).mono ?_; rintro e w2 ⟨b, p1, p2, p3, rfl, own, cap, q2⟩)  | (at_lookup; refine wpList_lookup_own_ok _ rfl _ _ 68 rfl 5 66 keyU8 Tryd.underlying68 _ (zeroF _) (num 0) [] (rr_0 _ _ _) _ _ _ rfl own _ _ rfl (Go.Maps.keyOf_int_mk Tryd.underlying5 wf) ?_; intro v ps hv; rw [HH.out]; clear hv))
    go_ret2
    exact ⟨rfl, q1.trans (q2.mono q1.size)⟩
end Go.Proofs.YthdmgnlemmpjkaaDoor
