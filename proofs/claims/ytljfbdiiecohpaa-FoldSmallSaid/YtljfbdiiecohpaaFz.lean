/- awake holds. -/
import Derived.Test.YtljfbdiiecohpaaFy
namespace Go.Proofs.Ytljfbdiiecohpaa
open Go.RowKit
theorem aw_fold0 (w : World) : Calls Try.prog 13 #[.string ⟨#[32, 49, 50, 45, 97, 32, 32, 82, 117, 101, 194, 160, 83, 116, 46, 32, 74, 101, 97, 110, 44]⟩] w fun e w' => e = .returned (.string ⟨#[49, 50, 45, 65, 32, 82, 85, 69, 32, 83, 84, 32, 74, 69, 65, 78]⟩) ∧ Below w.heap.size w w' := by
  have h := foldl_any [32, 49, 50, 45, 97, 32, 32, 82, 117, 101, 194, 160, 83, 116, 46, 32, 74, 101, 97, 110, 44] w (by decide)
  rw [show Fo.fold [32, 49, 50, 45, 97, 32, 32, 82, 117, 101, 194, 160, 83, 116, 46, 32, 74, 101, 97, 110, 44] = [49, 50, 45, 65, 32, 82, 85, 69, 32, 83, 84, 32, 74, 69, 65, 78] by decide +kernel] at h
  exact h
theorem aw_fold1 (w : World) : Calls Try.prog 13 #[.string ⟨#[195, 132, 120, 195, 159]⟩] w fun e w' => e = .returned (.string ⟨#[65, 69, 88, 83, 83]⟩) ∧ Below w.heap.size w w' := by
  have h := foldl_any [195, 132, 120, 195, 159] w (by decide)
  rw [show Fo.fold [195, 132, 120, 195, 159] = [65, 69, 88, 83, 83] by decide +kernel] at h
  exact h
theorem aw_fold2 (w : World) : Calls Try.prog 13 #[.string ⟨#[195, 151]⟩] w fun e w' => e = .returned (.string ⟨#[]⟩) ∧ Below w.heap.size w w' := by
  have h := foldl_any [195, 151] w (by decide)
  rw [show Fo.fold [195, 151] = [] by decide +kernel] at h
  exact h
theorem aw_fold3 (w : World) : Calls Try.prog 13 #[.string ⟨#[195]⟩] w fun e w' => e = .returned (.string ⟨#[]⟩) ∧ Below w.heap.size w w' := by
  have h := foldl_any [195] w (by decide)
  rw [show Fo.fold [195] = [] by decide +kernel] at h
  exact h
theorem aw_short0 (w : World) : Calls Try.prog 24 #[.int .u8 2, .string ⟨#[65, 86, 69, 78, 85, 69]⟩] w fun e w' => e = .returned (.tuple #[.string ⟨#[65, 86, 69]⟩, .bool true]) ∧ Below w.heap.size w w' := by
  have h := short_any 2 [65, 86, 69, 78, 85, 69] w
  rw [show Fo.short 2 [65, 86, 69, 78, 85, 69] = ([65, 86, 69], true) by decide +kernel] at h
  exact h
theorem aw_short1 (w : World) : Calls Try.prog 24 #[.int .u8 2, .string ⟨#[83, 84]⟩] w fun e w' => e = .returned (.tuple #[.string ⟨#[]⟩, .bool false]) ∧ Below w.heap.size w w' := by
  have h := short_any 2 [83, 84] w
  rw [show Fo.short 2 [83, 84] = ([], false) by decide +kernel] at h
  exact h
theorem aw_kinds0 (w : World) : Calls Try.prog 23 #[.string ⟨#[83, 84]⟩] w fun e w' => e = .returned (.int .u8 36) ∧ Below w.heap.size w w' := by
  have h := kinds_any [83, 84] w
  rw [show Fo.kinds [83, 84] = 36 by decide +kernel] at h
  exact h
theorem aw_kinds1 (w : World) : Calls Try.prog 23 #[.string ⟨#[88]⟩] w fun e w' => e = .returned (.int .u8 0) ∧ Below w.heap.size w w' := by
  have h := kinds_any [88] w
  rw [show Fo.kinds [88] = 0 by decide +kernel] at h
  exact h
theorem aw_same0 (w : World) : Calls Try.prog 20 #[.int .u8 2, .string ⟨#[80, 76, 65, 84, 90]⟩, .string ⟨#[80, 76, 65, 67, 69]⟩] w fun e w' => e = .returned (.bool false) ∧ Below w.heap.size w w' := by
  have h := same_any 2 [80, 76, 65, 84, 90] [80, 76, 65, 67, 69] w
  rw [show Fo.same 2 [80, 76, 65, 84, 90] [80, 76, 65, 67, 69] = false by decide +kernel] at h
  exact h
theorem aw_same1 (w : World) : Calls Try.prog 20 #[.int .u8 2, .string ⟨#[80, 76]⟩, .string ⟨#[80, 76, 65, 67, 69]⟩] w fun e w' => e = .returned (.bool true) ∧ Below w.heap.size w w' := by
  have h := same_any 2 [80, 76] [80, 76, 65, 67, 69] w
  rw [show Fo.same 2 [80, 76] [80, 76, 65, 67, 69] = true by decide +kernel] at h
  exact h
theorem aw_same2 (w : World) : Calls Try.prog 20 #[.int .u8 0, .string ⟨#[83, 84]⟩, .string ⟨#[83, 65, 73, 78, 84]⟩] w fun e w' => e = .returned (.bool true) ∧ Below w.heap.size w w' := by
  have h := same_any 0 [83, 84] [83, 65, 73, 78, 84] w
  rw [show Fo.same 0 [83, 84] [83, 65, 73, 78, 84] = true by decide +kernel] at h
  exact h
theorem aw_longs0 (w : World) : Calls Try.prog 22 #[.int .u8 0, .string ⟨#[83, 84]⟩] w fun e w' => ∃ v, e = .returned v ∧ Otx w w' v [[83, 84, 82, 69, 69, 84], [83, 65, 73, 78, 84]] := by
  have h := longs_any 0 [83, 84] w
  rw [show Fo.longs 0 [83, 84] = [[83, 84, 82, 69, 69, 84], [83, 65, 73, 78, 84]] by decide +kernel] at h
  exact h
theorem aw_longs1 (w : World) : Calls Try.prog 22 #[.int .u8 5, .string ⟨#[83, 84]⟩] w fun e w' => ∃ v, e = .returned v ∧ Otx w w' v [[83, 65, 73, 78, 84]] := by
  have h := longs_any 5 [83, 84] w
  rw [show Fo.longs 5 [83, 84] = [[83, 65, 73, 78, 84]] by decide +kernel] at h
  exact h
theorem aw_longs2 (w : World) : Calls Try.prog 22 #[.int .u8 2, .string ⟨#[65, 86, 69, 78, 85, 69]⟩] w fun e w' => ∃ v, e = .returned v ∧ Otx w w' v [[65, 86, 69, 78, 85, 69]] := by
  have h := longs_any 2 [65, 86, 69, 78, 85, 69] w
  rw [show Fo.longs 2 [65, 86, 69, 78, 85, 69] = [[65, 86, 69, 78, 85, 69]] by decide +kernel] at h
  exact h
theorem aw_longs3 (w : World) : Calls Try.prog 22 #[.int .u8 2, .string ⟨#[80, 76]⟩] w fun e w' => ∃ v, e = .returned v ∧ Otx w w' v [[80, 76, 65, 67, 69], [80, 76, 65, 84, 90]] := by
  have h := longs_any 2 [80, 76] w
  rw [show Fo.longs 2 [80, 76] = [[80, 76, 65, 67, 69], [80, 76, 65, 84, 90]] by decide +kernel] at h
  exact h
theorem aw_texts (v : Value) (l : List Fo.Bs) (w : World) (h : Tx w v l) (hl : l.length ≤ 1000) (cs : Array Value) (t : TypeId) (n c : Nat) (hc : cs = (tcs l).toArray) (hn : n = l.length) :
    Calls Try.prog 26 #[v, .slice (some ⟨w.heap.size, 0, none⟩) n c] (w.alloc (.cells cs t)) fun e w' => e = .returned (.bool true) ∧ Below w.heap.size w w' := by
  subst hc hn
  have B0 := (Below.refl w.heap.size w).alloc (Nat.le_refl _) (.cells (tcs l).toArray t)
  have h2 : Tx (w.alloc (.cells (tcs l).toArray t)) (.slice (some ⟨w.heap.size, 0, none⟩) l.length c) l :=
    ⟨_, c, rfl, Or.inr ⟨_, 0, rfl, fun j hj => cell_at _ _ _ _ _ _ rfl (by simpa using tcs_at l j hj)⟩⟩
  refine (sameTexts_any v _ l l _ (h.below B0) h2 (by omega) (by omega)).mono ?_
  rintro e w' ⟨rfl, b⟩
  rw [beq_self_eq_true]
  exact ⟨rfl, B0.trans (b.mono B0.size)⟩
set_option maxRecDepth 100000 in
set_option maxHeartbeats 3200000 in
theorem awake5_any (w : World) : Calls Try.prog 12 #[] w fun e w' => e = .returned (.bool true) ∧ Below w.heap.size w w' := by
  have B := Lib.hid (Below.refl w.heap.size w)
  go_enter Try.func12, Try.ntmps12
  go_wp2_with (first
    | (go_at_call 13; with_reducible refine (aw_fold0 _).mono ?_; rintro e w2 ⟨rfl, b2⟩; have B := Lib.hid (B.out.trans (b2.mono B.out.size)); clear b2)
    | (go_at_call 13; with_reducible refine (aw_fold1 _).mono ?_; rintro e w2 ⟨rfl, b2⟩; have B := Lib.hid (B.out.trans (b2.mono B.out.size)); clear b2)
    | (go_at_call 13; with_reducible refine (aw_fold2 _).mono ?_; rintro e w2 ⟨rfl, b2⟩; have B := Lib.hid (B.out.trans (b2.mono B.out.size)); clear b2)
    | (go_at_call 13; with_reducible refine (aw_fold3 _).mono ?_; rintro e w2 ⟨rfl, b2⟩; have B := Lib.hid (B.out.trans (b2.mono B.out.size)); clear b2)
    | (go_at_call 24; with_reducible refine (aw_short0 _).mono ?_; rintro e w2 ⟨rfl, b2⟩; have B := Lib.hid (B.out.trans (b2.mono B.out.size)); clear b2)
    | (go_at_call 24; with_reducible refine (aw_short1 _).mono ?_; rintro e w2 ⟨rfl, b2⟩; have B := Lib.hid (B.out.trans (b2.mono B.out.size)); clear b2)
    | (go_at_call 23; with_reducible refine (aw_kinds0 _).mono ?_; rintro e w2 ⟨rfl, b2⟩; have B := Lib.hid (B.out.trans (b2.mono B.out.size)); clear b2)
    | (go_at_call 23; with_reducible refine (aw_kinds1 _).mono ?_; rintro e w2 ⟨rfl, b2⟩; have B := Lib.hid (B.out.trans (b2.mono B.out.size)); clear b2)
    | (go_at_call 20; with_reducible refine (aw_same0 _).mono ?_; rintro e w2 ⟨rfl, b2⟩; have B := Lib.hid (B.out.trans (b2.mono B.out.size)); clear b2)
    | (go_at_call 20; with_reducible refine (aw_same1 _).mono ?_; rintro e w2 ⟨rfl, b2⟩; have B := Lib.hid (B.out.trans (b2.mono B.out.size)); clear b2)
    | (go_at_call 20; with_reducible refine (aw_same2 _).mono ?_; rintro e w2 ⟨rfl, b2⟩; have B := Lib.hid (B.out.trans (b2.mono B.out.size)); clear b2)
    | (go_at_call 22; with_reducible refine (aw_longs0 _).mono ?_; rintro e w2 ⟨v, rfl, O2⟩; have T := Lib.hid O2.tx; have B := Lib.hid (B.out.trans (O2.bl.mono B.out.size)); clear O2)
    | (go_at_call 22; with_reducible refine (aw_longs1 _).mono ?_; rintro e w2 ⟨v, rfl, O2⟩; have T := Lib.hid O2.tx; have B := Lib.hid (B.out.trans (O2.bl.mono B.out.size)); clear O2)
    | (go_at_call 22; with_reducible refine (aw_longs2 _).mono ?_; rintro e w2 ⟨v, rfl, O2⟩; have T := Lib.hid O2.tx; have B := Lib.hid (B.out.trans (O2.bl.mono B.out.size)); clear O2)
    | (go_at_call 22; with_reducible refine (aw_longs3 _).mono ?_; rintro e w2 ⟨v, rfl, O2⟩; have T := Lib.hid O2.tx; have B := Lib.hid (B.out.trans (O2.bl.mono B.out.size)); clear O2)
    | (go_at_call 26; refine (aw_texts _ _ _ T.out (by decide) _ _ _ _ rfl rfl).mono ?_; rintro e w2 ⟨rfl, b2⟩; have B := Lib.hid (B.out.trans (b2.mono B.out.size)); clear b2 T))
  go_ret
  exact ⟨rfl, B.out⟩
end Go.Proofs.Ytljfbdiiecohpaa
