/- The contract of 'search'. -/
import Derived.Test.YtalldnnegofdkaaSm1
import Derived.Test.YtalldnnegofdkaaEt
import Derived.Test.YtalldnnegofdkaaTl1
import Derived.Laws.IdiomStrings
namespace Go.Proofs.Ytalldnnegofdkaa
open Go.RowKit Go.Shelf

set_option maxRecDepth 100000 in
set_option maxHeartbeats 1600000 in
theorem search_nil (c : Ed.Cs) (w : World) : Calls Try.prog 17 #[sb [], sb [], cv c] w fun e w' => e = .returned (.int .i64 (Ed.ds c [] [])) ∧ Below w.heap.size w w' := by
  rw [Ed.ds_nil]
  show Calls Try.prog 17 #[.string ⟨#[]⟩, .string ⟨#[]⟩, cv c] w _
  go_enter Try.func17, Try.ntmps17
  go_wp2
  go_ret
  exact ⟨rfl, (Below.refl _ _).alloc (Nat.le_refl _) _⟩
set_option maxRecDepth 100000 in
set_option maxHeartbeats 1600000 in
theorem search_ins (b : UInt8) (y : Ed.Bs) (c : Ed.Cs) (hc : Ed.Rc c) (hl : (b :: y).length ≤ 60) (h : ∀ W, Calls Try.prog 17 #[sb [], sb y, cv c] W fun e w' => e = .returned (.int .i64 (Ed.ds c [] y)) ∧ Below W.heap.size W w') (w : World) : Calls Try.prog 17 #[sb [], sb (b :: y), cv c] w fun e w' => e = .returned (.int .i64 (Ed.ds c [] (b :: y))) ∧ Below w.heap.size w w' := by
  have E5 := Ed.mn_ds hc (us := []) (vs := b :: y) (by simp) hl (Or.inr (by simp))
  rw [Ed.mn_yes (by rfl), Ed.mn_no (by rfl), Ed.mn_no (by rfl), Ed.mn_no (by rfl), Ed.mn_no (by rfl)] at E5
  have E6 : min (1073741824 : Int) (c.ins + Ed.ds c [] y) = Ed.ds c [] (b :: y) := E5
  have db := Ed.ds_bd hc [] y (by simp) (by simp at hl; omega)
  have cb := hc.1
  obtain ⟨d, hd⟩ : ∃ d, d = Ed.ds c [] y := ⟨_, rfl⟩
  obtain ⟨E, hE⟩ : ∃ d, d = Ed.ds c [] (b :: y) := ⟨_, rfl⟩
  rw [← hd] at db h E6
  rw [← hE] at E6 ⊢
  obtain ⟨B, hB⟩ : ∃ A : ByteArray, A = ⟨(b :: y).toArray⟩ := ⟨_, rfl⟩
  have T : B.extract 1 B.size = ⟨y.toArray⟩ := Ed.tail_is (b :: y) B 1 hB
  have nB : ¬ (B = ⟨#[]⟩) := by rw [hB]; exact Ed.ne_empty b y
  have iB : B.toList.isEmpty = false := by
    rw [← decide_eq_emptyBytes]
    exact decide_eq_false nB
  have pB : 1 ≤ B.size := by rw [hB, Ed.size_is]; simp
  have pB' : (1 : Int) ≤ B.size := by omega
  have e2 : sb (b :: y) = .string B := by rw [hB]
  have e3 : sb y = .string (B.extract 1 B.size) := by rw [T]
  rw [e2]
  rw [e3] at h
  have qs : IntKind.i64.wrap (c.ins + d) = c.ins + d := IntWalk.i64_in _ (by omega)
  have H := Lib.hid (show ∀ W, Calls Try.prog 17 #[.string ⟨#[]⟩, .string (B.extract 1 B.size), cv c] W fun e w' => e = .returned (.int .i64 d) ∧ Below W.heap.size W w' from h)
  show Calls Try.prog 17 #[.string ⟨#[]⟩, .string B, cv c] w _
  clear E5 hd hE hB T e2 e3 h hl hc
  have BB := Lib.hid (show Below w.heap.size w (w.alloc (.cells #[.int .i64 c.ins, .int .i64 c.del, .int .i64 c.chg, .int .i64 c.swp] 23)) from (Below.refl _ _).alloc (Nat.le_refl _) _)
  have K := Lib.hid (Bxc.made w c)
  obtain ⟨w1, hw1⟩ : ∃ x, x = w.alloc (.cells #[.int .i64 c.ins, .int .i64 c.del, .int .i64 c.chg, .int .i64 c.swp] 23) := ⟨_, rfl⟩
  go_enter Try.func17, Try.ntmps17
  rw [← hw1] at BB K
  go_upto_region 1 with fail
  rw [← hw1]
  clear hw1
  go_upto_region 9 with fail
  go_quiet (fail)
  have K := Lib.hid (K.out.below (below_drewN (Below.refl _ _) nq))
  have BB := Lib.hid (BB.out.trans ((below_drewN (Below.refl _ _) nq).mono BB.out.size))
  obtain ⟨w2, hw2⟩ : ∃ x, x = w1.drewN nq := ⟨_, rfl⟩
  rw [← hw2] at K BB ⊢
  clear hw2
  go_upto_region 14 with fail
  obtain ⟨x0, x1, x2, x3⟩ := (K.out.below (Below.refl _ _).drew)
  have gb : Below w2.heap.size w2 w2.drew := (Below.refl _ _).drew
  go_region_held3 (fun w' => w'.cell? ⟨w.heap.size, 0, none⟩ = some (.int .i64 c.ins) ∧ w'.cell? ⟨w.heap.size, 1, none⟩ = some (.int .i64 c.del) ∧ w'.cell? ⟨w.heap.size, 2, none⟩ = some (.int .i64 c.chg) ∧ w'.cell? ⟨w.heap.size, 3, none⟩ = some (.int .i64 c.swp)) (first | (refine ⟨?_, ?_, ?_, ?_⟩ <;> assumption) | skip)
    (first | (go_at_call 17; (with_reducible refine (H.out _).mono ?_); rintro e w5 ⟨rfl, b5⟩; have x0 := below_cell b5 x0; have x1 := below_cell b5 x1; have x2 := below_cell b5 x2; have x3 := below_cell b5 x3; have gb := gb.trans (b5.mono gb.size); clear b5))
  have K := Lib.hid (K.out.below gb)
  have BB := Lib.hid (BB.out.trans (gb.mono BB.out.size))
  clear x0 x1 x2 x3 gb
  go_wp2
  go_ret
  exact ⟨rfl, BB.out⟩
set_option maxRecDepth 100000 in
set_option maxHeartbeats 1600000 in
theorem search_del (b : UInt8) (y : Ed.Bs) (c : Ed.Cs) (hc : Ed.Rc c) (hl : (b :: y).length ≤ 60) (h : ∀ W, Calls Try.prog 17 #[sb y, sb [], cv c] W fun e w' => e = .returned (.int .i64 (Ed.ds c y [])) ∧ Below W.heap.size W w') (w : World) : Calls Try.prog 17 #[sb (b :: y), sb [], cv c] w fun e w' => e = .returned (.int .i64 (Ed.ds c (b :: y) [])) ∧ Below w.heap.size w w' := by
  have E5 := Ed.mn_ds hc (us := b :: y) (vs := []) hl (by simp) (Or.inl (by simp))
  rw [Ed.mn_no (by rfl), Ed.mn_yes (by rfl), Ed.mn_no (by cases y <;> rfl), Ed.mn_no (by rfl), Ed.mn_no (by rfl)] at E5
  have E6 : min (1073741824 : Int) (c.del + Ed.ds c y []) = Ed.ds c (b :: y) [] := E5
  have db := Ed.ds_bd hc y [] (by simp at hl; omega) (by simp)
  have cb := hc.2.1
  obtain ⟨d, hd⟩ : ∃ d, d = Ed.ds c y [] := ⟨_, rfl⟩
  obtain ⟨E, hE⟩ : ∃ d, d = Ed.ds c (b :: y) [] := ⟨_, rfl⟩
  rw [← hd] at db h E6
  rw [← hE] at E6 ⊢
  obtain ⟨B, hB⟩ : ∃ A : ByteArray, A = ⟨(b :: y).toArray⟩ := ⟨_, rfl⟩
  have T : B.extract 1 B.size = ⟨y.toArray⟩ := Ed.tail_is (b :: y) B 1 hB
  have nB : ¬ (B = ⟨#[]⟩) := by rw [hB]; exact Ed.ne_empty b y
  have iB : B.toList.isEmpty = false := by
    rw [← decide_eq_emptyBytes]
    exact decide_eq_false nB
  have pB : 1 ≤ B.size := by rw [hB, Ed.size_is]; simp
  have pB' : (1 : Int) ≤ B.size := by omega
  have e2 : sb (b :: y) = .string B := by rw [hB]
  have e3 : sb y = .string (B.extract 1 B.size) := by rw [T]
  rw [e2]
  rw [e3] at h
  have qs : IntKind.i64.wrap (c.del + d) = c.del + d := IntWalk.i64_in _ (by omega)
  have H := Lib.hid (show ∀ W, Calls Try.prog 17 #[.string (B.extract 1 B.size), .string ⟨#[]⟩, cv c] W fun e w' => e = .returned (.int .i64 d) ∧ Below W.heap.size W w' from h)
  show Calls Try.prog 17 #[.string B, .string ⟨#[]⟩, cv c] w _
  clear E5 hd hE hB T e2 e3 h hl hc
  have BB := Lib.hid (show Below w.heap.size w (w.alloc (.cells #[.int .i64 c.ins, .int .i64 c.del, .int .i64 c.chg, .int .i64 c.swp] 23)) from (Below.refl _ _).alloc (Nat.le_refl _) _)
  have K := Lib.hid (Bxc.made w c)
  obtain ⟨w1, hw1⟩ : ∃ x, x = w.alloc (.cells #[.int .i64 c.ins, .int .i64 c.del, .int .i64 c.chg, .int .i64 c.swp] 23) := ⟨_, rfl⟩
  go_enter Try.func17, Try.ntmps17
  rw [← hw1] at BB K
  go_upto_region 1 with fail
  rw [← hw1]
  clear hw1
  go_upto_region 9 with fail
  by_cases hL : (1 : Int) < B.size
  all_goals
    go_quiet (fail)
    have K := Lib.hid (K.out.below (below_drewN (Below.refl _ _) nq))
    have BB := Lib.hid (BB.out.trans ((below_drewN (Below.refl _ _) nq).mono BB.out.size))
    obtain ⟨w2, hw2⟩ : ∃ x, x = w1.drewN nq := ⟨_, rfl⟩
    rw [← hw2] at K BB ⊢
    clear hw2
    go_upto_region 12 with fail
    obtain ⟨x0, x1, x2, x3⟩ := (K.out.below (Below.refl _ _).drew)
    have gb : Below w2.heap.size w2 w2.drew := (Below.refl _ _).drew
    go_region_held3 (fun w' => w'.cell? ⟨w.heap.size, 0, none⟩ = some (.int .i64 c.ins) ∧ w'.cell? ⟨w.heap.size, 1, none⟩ = some (.int .i64 c.del) ∧ w'.cell? ⟨w.heap.size, 2, none⟩ = some (.int .i64 c.chg) ∧ w'.cell? ⟨w.heap.size, 3, none⟩ = some (.int .i64 c.swp)) (first | (refine ⟨?_, ?_, ?_, ?_⟩ <;> assumption) | skip)
      (first | (go_at_call 17; (with_reducible refine (H.out _).mono ?_); rintro e w5 ⟨rfl, b5⟩; have x0 := below_cell b5 x0; have x1 := below_cell b5 x1; have x2 := below_cell b5 x2; have x3 := below_cell b5 x3; have gb := gb.trans (b5.mono gb.size); clear b5))
    have K := Lib.hid (K.out.below gb)
    have BB := Lib.hid (BB.out.trans (gb.mono BB.out.size))
    clear x0 x1 x2 x3 gb
    go_wp2
    go_ret
    exact ⟨rfl, BB.out⟩
end Go.Proofs.Ytalldnnegofdkaa
