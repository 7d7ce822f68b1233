/- EditMirror's walk: exchanged, backwards. -/
import Derived.Test.YtalldnnegofdkaaCEJoined
import Derived.Test.YtalldnnegofdkaaEbk
namespace Go.Proofs.Ytalldnnegofdkaa
open Go.RowKit Go.Shelf

theorem Ed.ds_self0 {c : Ed.Cs} (h : Ed.Rc c) (x : Ed.Bs) : Ed.ds c x x = 0 := Ed.ds_self h x
theorem list_ne {A B : ByteArray} (h : ¬ A = B) : (A.toList == B.toList) = false := by
  rw [beq_eq_false_iff_ne]
  intro e
  rw [ByteArray.toList_eq, ByteArray.toList_eq] at e
  exact h (ByteArray.ext (Array.ext' e))
set_option maxRecDepth 100000 in
set_option maxHeartbeats 6400000 in
theorem mirror_no (a b : Ed.Bs) (c : Ed.Cs) (w : World) (h : 60 < a.length ∨ 60 < b.length) :
    Calls Try.prog 7 #[sb a, sb b, cv c] w fun e w' => e = .returned (.bool true) ∧ Below w.heap.size w w' := by
  have AW := Lib.hid awake_any
  have B0 := Lib.hid (show Below w.heap.size w (w.alloc (.cells #[.int .i64 c.ins, .int .i64 c.del, .int .i64 c.chg, .int .i64 c.swp] 23)) from (Below.refl _ _).alloc (Nat.le_refl _) _)
  have K0 := Lib.hid (Bxc.made w c)
  have SA := Ed.size_is a
  have SB := Ed.size_is b
  obtain ⟨A, hA⟩ : ∃ A : ByteArray, A = ⟨a.toArray⟩ := ⟨_, rfl⟩
  obtain ⟨B, hB⟩ : ∃ A : ByteArray, A = ⟨b.toArray⟩ := ⟨_, rfl⟩
  have e3 : sb a = .string A := by rw [hA]
  have e4 : sb b = .string B := by rw [hB]
  rw [← SA, ← SB, ← hA, ← hB] at h
  rw [e3, e4]
  clear hA hB SA SB e3 e4
  by_cases h1 : 60 < A.size
  · clear h
    go_enter Try.func7, Try.ntmps7
    go_wp2_with (go_at_call 11; (with_reducible refine (AW.out _).mono ?_); rintro e w1 ⟨rfl, b1⟩; have K1 := Lib.hid (K0.out.below b1); have B1 := Lib.hid (B0.out.trans (b1.mono B0.out.size)); obtain ⟨x0, x1, x2, x3⟩ := K1.out; clear b1)
    go_ret
    exact ⟨rfl, B1.out⟩
  · have h2 : 60 < B.size := by omega
    clear h
    go_enter Try.func7, Try.ntmps7
    go_wp2_with (go_at_call 11; (with_reducible refine (AW.out _).mono ?_); rintro e w1 ⟨rfl, b1⟩; have K1 := Lib.hid (K0.out.below b1); have B1 := Lib.hid (B0.out.trans (b1.mono B0.out.size)); obtain ⟨x0, x1, x2, x3⟩ := K1.out; clear b1)
    go_ret
    exact ⟨rfl, B1.out⟩
set_option maxRecDepth 100000 in
set_option maxHeartbeats 6400000 in
theorem mirror_bad (a b : Ed.Bs) (c : Ed.Cs) (w : World) (ha : a.length ≤ 60) (hb : b.length ≤ 60) (hc : ¬ Ed.Rc c) :
    Calls Try.prog 7 #[sb a, sb b, cv c] w fun e w' => e = .returned (.bool true) ∧ Below w.heap.size w w' := by
  have AW := Lib.hid awake_any
  have B0 := Lib.hid (show Below w.heap.size w (w.alloc (.cells #[.int .i64 c.ins, .int .i64 c.del, .int .i64 c.chg, .int .i64 c.swp] 23)) from (Below.refl _ _).alloc (Nat.le_refl _) _)
  have K0 := Lib.hid (Bxc.made w c)
  have SA := Ed.size_is a
  have SB := Ed.size_is b
  obtain ⟨A, hA⟩ : ∃ A : ByteArray, A = ⟨a.toArray⟩ := ⟨_, rfl⟩
  obtain ⟨B, hB⟩ : ∃ A : ByteArray, A = ⟨b.toArray⟩ := ⟨_, rfl⟩
  have e3 : sb a = .string A := by rw [hA]
  have e4 : sb b = .string B := by rw [hB]
  have RA := right_any c
  rw [rcb_no hc] at RA
  have RH := Lib.hid RA
  rw [← SA, ← hA] at ha
  rw [← SB, ← hB] at hb
  rw [e3, e4]
  clear hA hB SA SB e3 e4 RA hc
  go_enter Try.func7, Try.ntmps7
  go_wp2_with (first
    | (go_at_call 11; (with_reducible refine (AW.out _).mono ?_); rintro e w1 ⟨rfl, b1⟩; have K1 := Lib.hid (K0.out.below b1); have B1 := Lib.hid (B0.out.trans (b1.mono B0.out.size)); obtain ⟨x0, x1, x2, x3⟩ := K1.out; clear b1)
    | (go_at_call 18; (with_reducible refine (RH.out _).mono ?_); rintro e w1 ⟨rfl, b1⟩; have K1 := Lib.hid (K1.out.below b1); have B1 := Lib.hid (B1.out.trans (b1.mono B1.out.size)); clear x0 x1 x2 x3; obtain ⟨x0, x1, x2, x3⟩ := K1.out; clear b1))
  go_ret
  exact ⟨rfl, B1.out⟩
set_option maxRecDepth 100000 in
set_option maxHeartbeats 6400000 in
theorem mirror_ok (a b : Ed.Bs) (c : Ed.Cs) (w : World) (ha : a.length ≤ 60) (hb : b.length ≤ 60) (hc : Ed.Rc c) :
    Calls Try.prog 7 #[sb a, sb b, cv c] w fun e w' => e = .returned (.bool true) ∧ Below w.heap.size w w' := by
  have AW := Lib.hid awake_any
  have B0 := Lib.hid (show Below w.heap.size w (w.alloc (.cells #[.int .i64 c.ins, .int .i64 c.del, .int .i64 c.chg, .int .i64 c.swp] 23)) from (Below.refl _ _).alloc (Nat.le_refl _) _)
  have K0 := Lib.hid (Bxc.made w c)
  have SA := Ed.size_is a
  have SB := Ed.size_is b
  obtain ⟨A, hA⟩ : ∃ A : ByteArray, A = ⟨a.toArray⟩ := ⟨_, rfl⟩
  obtain ⟨B, hB⟩ : ∃ A : ByteArray, A = ⟨b.toArray⟩ := ⟨_, rfl⟩
  have e3 : sb a = .string A := by rw [hA]
  have e4 : sb b = .string B := by rw [hB]
  have RA := right_any c
  rw [rcb_yes hc] at RA
  have RH := Lib.hid RA
  have D1 := distance_ok c hc a b ha hb
  have D2 := distance_ok c.tw (Ed.tw_rc hc) b a hb ha
  have D3 := distance_ok c hc a.reverse b.reverse (by simpa using ha) (by simpa using hb)
  have D4 := distance_ok c hc a a ha ha
  rw [Ed.ds_tw hc ha hb] at D2
  rw [Ed.ds_rev hc ha hb] at D3
  rw [Ed.ds_self0 hc a] at D4
  have h3 := Ed.ds_zero hc ha hb
  obtain ⟨d1, hd1⟩ : ∃ d, d = Ed.ds c a b := ⟨_, rfl⟩
  rw [← hd1] at D1 D2 D3 h3
  have BA := back_any a
  have BB := back_any b
  rw [e3] at D1 D2 D4 BA
  rw [e4] at D1 D2 BB
  rw [e3, e4]
  have zA : A.size ≤ 60 := by rw [hA, SA]; exact ha
  have zB : B.size ≤ 60 := by rw [hB, SB]; exact hb
  have hab : d1 = 0 ↔ A = B := by
    rw [h3, hA, hB]
    constructor
    · intro e; rw [e]
    · intro e
      have := congrArg (fun x : ByteArray => x.data.toList) e
      simpa using this
  have D1H := Lib.hid D1
  have D2H : Hid (∀ w, Calls Try.prog 16 #[.string B, .string A, .agg #[.int .i64 c.del, .int .i64 c.ins, .int .i64 c.chg, .int .i64 c.swp]] w fun e w' => e = .returned (.tuple #[.int .i64 d1, .int .i64 0]) ∧ Below w.heap.size w w') := D2
  have D3H := Lib.hid D3
  have D4H := Lib.hid D4
  have BAH := Lib.hid (fun w => BA w (by omega))
  have BBH := Lib.hid (fun w => BB w (by omega))
  have CT : Hid (c.tw = ⟨c.del, c.ins, c.chg, c.swp⟩) := rfl
  clear RA D1 D2 D3 D4 BA BB hA hB SA SB e3 e4 hd1 h3 ha hb hc
  go_enter Try.func7, Try.ntmps7
  go_upto_region 10 with (first
    | (go_at_call 11; (with_reducible refine (AW.out _).mono ?_); rintro e w1 ⟨rfl, b1⟩; have K1 := Lib.hid (K0.out.below b1); have B1 := Lib.hid (B0.out.trans (b1.mono B0.out.size)); obtain ⟨x0, x1, x2, x3⟩ := K1.out; clear b1)
    | (go_at_call 18; (with_reducible refine (RH.out _).mono ?_); rintro e w1 ⟨rfl, b1⟩; have K1 := Lib.hid (K1.out.below b1); have B1 := Lib.hid (B1.out.trans (b1.mono B1.out.size)); clear x0 x1 x2 x3; obtain ⟨x0, x1, x2, x3⟩ := K1.out; clear b1)
    | (go_at_call 16; (with_reducible refine (D1H.out _).mono ?_); rintro e w1 ⟨rfl, b1⟩; have K1 := Lib.hid (K1.out.below b1); have B1 := Lib.hid (B1.out.trans (b1.mono B1.out.size)); clear x0 x1 x2 x3; obtain ⟨x0, x1, x2, x3⟩ := K1.out; have y0 := fun o => cell_in o x0; have y1 := fun o => cell_in o x1; clear b1)
    | (go_at_call 16; (with_reducible refine (D2H.out _).mono ?_); rintro e w1 ⟨rfl, b1⟩; have K1 := Lib.hid ((K1.out.below ((Below.refl _ _).alloc (Nat.le_refl _) _)).below b1); have B1 := Lib.hid ((B1.out.alloc B1.out.size _).trans (b1.mono (B1.out.alloc B1.out.size _).size)); clear x0 x1 x2 x3 y0 y1; obtain ⟨x0, x1, x2, x3⟩ := K1.out; clear b1))
  obtain ⟨w9, hw9⟩ : ∃ x, x = w1 := ⟨_, rfl⟩
  rw [← hw9] at x0 x1 x2 x3 K1 B1 ⊢
  clear hw9
  have x0 : w9.drew.cell? ⟨w.heap.size, 0, none⟩ = some (.int .i64 c.ins) := x0
  have x1 : w9.drew.cell? ⟨w.heap.size, 1, none⟩ = some (.int .i64 c.del) := x1
  have x2 : w9.drew.cell? ⟨w.heap.size, 2, none⟩ = some (.int .i64 c.chg) := x2
  have x3 : w9.drew.cell? ⟨w.heap.size, 3, none⟩ = some (.int .i64 c.swp) := x3
  have gb : Below w.heap.size w w9.drew := B1.out.drew
  go_region_held3 (fun w' => w'.cell? ⟨w.heap.size, 0, none⟩ = some (.int .i64 c.ins) ∧ w'.cell? ⟨w.heap.size, 1, none⟩ = some (.int .i64 c.del) ∧ w'.cell? ⟨w.heap.size, 2, none⟩ = some (.int .i64 c.chg) ∧ w'.cell? ⟨w.heap.size, 3, none⟩ = some (.int .i64 c.swp)) (first | (refine ⟨?_, ?_, ?_, ?_⟩ <;> assumption) | skip)
    (first
      | (go_at_call 23; (with_reducible refine (BAH.out _).mono ?_); rintro e w5 ⟨rfl, b5⟩; have x0 := below_cell b5 x0; have x1 := below_cell b5 x1; have x2 := below_cell b5 x2; have x3 := below_cell b5 x3; have gb := gb.trans (b5.mono gb.size); clear b5)
      | (go_at_call 23; (with_reducible refine (BBH.out _).mono ?_); rintro e w5 ⟨rfl, b5⟩; have x0 := below_cell b5 x0; have x1 := below_cell b5 x1; have x2 := below_cell b5 x2; have x3 := below_cell b5 x3; have gb := gb.trans (b5.mono gb.size); clear b5)
      | (go_at_call 16; (with_reducible refine (D3H.out _).mono ?_); rintro e w5 ⟨rfl, b5⟩; have x0 := below_cell b5 x0; have x1 := below_cell b5 x1; have x2 := below_cell b5 x2; have x3 := below_cell b5 x3; have gb := gb.trans (b5.mono gb.size); clear b5))
  have B1 := Lib.hid gb
  by_cases hd : d1 = 0
  · obtain rfl : A = B := hab.1 hd
    clear gb hab
    subst hd
    go_wp2_with (go_at_call 16; (with_reducible refine (D4H.out _).mono ?_); rintro e w1 ⟨rfl, b1⟩; have B1 := Lib.hid (B1.out.trans (b1.mono B1.out.size)); clear b1)
    go_ret
    exact ⟨rfl, B1.out⟩
  · have hne : ¬ A = B := fun e => hd (hab.2 e)
    have hdd : (d1 == 0) = false := beq_eq_false_iff_ne.2 hd
    clear gb hab
    go_wp2_with (go_at_call 16; (with_reducible refine (D4H.out _).mono ?_); rintro e w1 ⟨rfl, b1⟩; have B1 := Lib.hid (B1.out.trans (b1.mono B1.out.size)); clear b1)
    go_ret
    exact ⟨ret_bool (by rw [list_ne hne]; rfl), B1.out⟩
theorem walk_editMirror (w : World) (a : ByteArray) (_ha : a.size ≤ maxLen) (b : ByteArray) (_hb : b.size ≤ maxLen) (c : Ed.Cs) :
    Calls Try.prog 7 #[.string a, .string b, cv c] w fun e w' => e = .returned (.bool true) ∧ Below w.heap.size w w' := by
  show Calls Try.prog 7 #[sb a.data.toList, sb b.data.toList, cv c] w _
  by_cases h : a.data.toList.length ≤ 60 ∧ b.data.toList.length ≤ 60
  · by_cases hc : Ed.Rc c
    · exact mirror_ok _ _ c w h.1 h.2 hc
    · exact mirror_bad _ _ c w h.1 h.2 hc
  · exact mirror_no _ _ c w (by omega)
end Go.Proofs.Ytalldnnegofdkaa
