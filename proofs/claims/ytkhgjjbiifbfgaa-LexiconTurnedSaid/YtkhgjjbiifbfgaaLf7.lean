/- The examples: awake. -/
import Derived.Test.YtkhgjjbiifbfgaaLe7
namespace Go.Proofs.Ytkhgjjbiifbfgaa
open Go.RowKit Go.Shelf

set_option maxRecDepth 100000 in
set_option maxHeartbeats 1600000 in
theorem ones_any (w : World) : Calls Try.prog 20 #[] w fun e w' => e = .returned (cv Lx.one) ∧ Below w.heap.size w w' := by
  go_enter Try.func20, Try.ntmps20
  go_wp2
  exact bodyPost_ret (v := cv Lx.one) (by simp [results, Try.results20, go_sem, Lx.one]) rfl ⟨rfl, (Below.refl _ _).alloc (Nat.le_refl _) _⟩
theorem Lex.alloc {B X : Nat} {w : World} {ws : List Ed.Bs} (h : Lex B X w ws) (o : Obj) : Lex B X (w.alloc o) ws := h.quiet ((Below.refl _ _).alloc (Nat.le_refl _) _)
theorem Hl.alloc {w : World} {v : Value} {l : List Hit} (h : Hl w v l) (o : Obj) : Hl (w.alloc o) v l := h.below ((Below.refl _ _).alloc (Nat.le_refl _) _)
theorem tx_new (w : World) (l : List Ed.Bs) (t : TypeId) : Tx (w.alloc (.cells (tcs l).toArray t)) (.slice (some ⟨w.heap.size, 0, none⟩) l.length l.length) l :=
  ⟨_, _, rfl, Or.inr ⟨_, 0, rfl, fun j hj => by rw [Nat.zero_add]; exact cell_at _ _ _ j _ _ rfl (by simpa using tcs_at l j hj)⟩⟩
theorem hl_new (w : World) (l : List Hit) (t : TypeId) : Hl (w.alloc (.cells (hcs l).toArray t)) (.slice (some ⟨w.heap.size, 0, none⟩) l.length l.length) l :=
  ⟨_, _, rfl, Nat.le_refl _, Or.inr ⟨_, 0, rfl, fun j hj => by rw [Nat.zero_add]; exact ⟨cell_at _ _ _ _ _ _ rfl (by simpa using (hcs_at l j hj).1), cell_at _ _ _ _ _ _ rfl (by simpa using (hcs_at l j hj).2)⟩⟩⟩
theorem sl_new (w : World) (l : List Int) (t : TypeId) : Sl (w.alloc (.cells (l.map (Value.int .i64)).toArray t)) (.slice (some ⟨w.heap.size, 0, none⟩) l.length l.length) l :=
  ⟨_, _, rfl, Or.inr ⟨_, 0, rfl, fun j hj => by rw [Nat.zero_add]; exact cell_at _ _ _ _ _ _ rfl (by simp [hj])⟩⟩
theorem same_yes (u v : Value) (l : List Hit) (w : World) (hu : Hl w u l) (hv : Hl w v l) (hm : l.length ≤ 1000000) : Calls Try.prog 14 #[u, v] w fun e w' => e = .returned (.bool true) ∧ Below w.heap.size w w' := by
  have := sameH_any u v l l w hu hv hm hm
  rwa [eqh_refl] at this
theorem Sl.of {w0 w : World} {v : Value} {l : List Int} (h : Oz w0 w v l) : Sl w v l := by
  obtain ⟨_, _, _, h2, _⟩ := own_sl h.own
  exact h2
theorem below_alloc {B : Nat} {w w' : World} (h : Below B w w') (hB : B ≤ w'.heap.size) (o : Obj) : Below B w (w'.alloc o) := h.alloc hB o
/-- What awake knows on its way. -/
structure Wy (w0 X : Nat) (w wr : World) : Prop where
  bl : Below w.heap.size w wr
  lx : Lex w0 X wr Lx.w4
theorem Wy.alloc {B X : Nat} {w wr : World} (h : Wy B X w wr) (o : Obj) : Wy B X w (wr.alloc o) := ⟨h.bl.alloc h.bl.size o, h.lx.alloc o⟩
theorem Wy.quiet {B X : Nat} {w wr w' : World} (h : Wy B X w wr) (b : Below wr.heap.size wr w') : Wy B X w w' := ⟨h.bl.trans (b.mono h.bl.size), h.lx.quiet b⟩
set_option maxRecDepth 100000 in
set_option maxHeartbeats 6400000 in
theorem awake_any (w : World) : Calls Try.prog 7 #[] w fun e w' => e = .returned (.bool true) ∧ Below w.heap.size w w' := by
  have N4 : Hid (∀ W, Calls Try.prog 10 #[.slice (some ⟨W.heap.size, 0, none⟩) 4 4] (W.alloc (.cells #[.string ⟨#[77, 65, 73, 78]⟩, .string ⟨#[77, 65, 73, 78, 69]⟩, .string ⟨#[77, 73, 78, 69]⟩, .string ⟨#[82, 79, 65, 68]⟩] 9)) fun e w' => ∃ B X, e = .returned (.tuple #[nd X, .int .i64 0]) ∧ Wy B X W w') := fun W => by
    refine (new_any _ Lx.w4 _ (tx_new W Lx.w4 9) (by decide) (by decide)).mono ?_
    rintro e w' ⟨hb, ⟨_, X, he, hL⟩ | ⟨hn, _⟩⟩
    · exact ⟨_, X, he, ((Below.refl _ _).alloc (Nat.le_refl _) _).trans (hb.mono (by simp)), hL⟩
    · exact absurd Lx.wrong_4 hn
  have N2 : Hid (∀ W, Calls Try.prog 10 #[.slice (some ⟨W.heap.size, 0, none⟩) 2 2] (W.alloc (.cells #[.string ⟨#[65]⟩, .string ⟨#[]⟩] 9)) fun e w' => e = .returned (.tuple #[.pointer none, .int .i64 2]) ∧ Below W.heap.size W w') := fun W => by
    refine (new_any _ [[65], []] _ (tx_new W [[65], []] 9) (by decide) (by decide)).mono ?_
    rw [Lx.wrong_2]
    rintro e w' ⟨hb, ⟨h, _⟩ | ⟨hn, he⟩⟩
    · exact absurd h (by decide)
    · exact ⟨he, ((Below.refl _ _).alloc (Nat.le_refl _) _).trans (hb.mono (by simp))⟩
  have N3 : Hid (∀ W, Calls Try.prog 10 #[.slice (some ⟨W.heap.size, 0, none⟩) 3 3] (W.alloc (.cells #[.string ⟨#[65]⟩, .string ⟨#[66]⟩, .string ⟨#[65]⟩] 9)) fun e w' => e = .returned (.tuple #[.pointer none, .int .i64 70]) ∧ Below W.heap.size W w') := fun W => by
    refine (new_any _ [[65], [66], [65]] _ (tx_new W [[65], [66], [65]] 9) (by decide) (by decide)).mono ?_
    rw [Lx.wrong_3]
    rintro e w' ⟨hb, ⟨h, _⟩ | ⟨hn, he⟩⟩
    · exact absurd h (by decide)
    · exact ⟨he, ((Below.refl _ _).alloc (Nat.le_refl _) _).trans (hb.mono (by simp))⟩
  have ON := Lib.hid ones_any
  have A1 : Hid (∀ B X W, Lex B X W Lx.w4 → Calls Try.prog 11 #[nd X, .string ⟨#[77, 65, 73, 78, 69]⟩, cv Lx.one, .int .i64 1] W fun e w' => ∃ v, e = .returned (.tuple #[v, .int .i64 0]) ∧ Oh W w' v [(1, 0), (0, 1), (2, 1)]) := fun B X W h => by
    have := near_any h (by decide) Lx.one Lx.one_right [77, 65, 73, 78, 69] (by decide) 1
    rwa [Lx.near_1] at this
  have A2 : Hid (∀ B X W, Lex B X W Lx.w4 → Calls Try.prog 11 #[nd X, .string ⟨#[77, 65, 78, 73]⟩, cv Lx.one, .int .i64 1] W fun e w' => ∃ v, e = .returned (.tuple #[v, .int .i64 0]) ∧ Oh W w' v [(0, 1)]) := fun B X W h => by
    have := near_any h (by decide) Lx.one Lx.one_right [77, 65, 78, 73] (by decide) 1
    rwa [Lx.near_2] at this
  have A4 : Hid (∀ B X W, Lex B X W Lx.w4 → Calls Try.prog 11 #[nd X, .string ⟨#[88]⟩, cv Lx.one, .int .i64 0] W fun e w' => ∃ a c, e = .returned (.tuple #[.slice a 0 c, .int .i64 0]) ∧ Below W.heap.size W w') := fun B X W h => by
    have := near_any h (by decide) Lx.one Lx.one_right [88] (by decide) 0
    rw [Lx.near_4] at this
    refine this.mono ?_
    rintro e w' ⟨v, rfl, O⟩
    obtain ⟨a, c, rfl, _⟩ := O.hl
    exact ⟨a, c, rfl, O.bl⟩
  have A3 : Hid (∀ B X W, Lex B X W Lx.w4 → Calls Try.prog 12 #[nd X, .string ⟨#[77, 65, 73, 78, 83]⟩, cv Lx.one, .int .i64 2] W fun e w' => ∃ v, e = .returned (.tuple #[v, .int .i64 0]) ∧ Oh W w' v [(0, 1), (1, 1)]) := fun B X W h => by
    have := best_any h (by decide) Lx.one Lx.one_right [77, 65, 73, 78, 83] (by decide) 2
    rwa [Lx.best_3] at this
  have FI : Hid (∀ B X W, Lex B X W Lx.w4 → Calls Try.prog 15 #[nd X, .string ⟨#[82, 79, 65, 68]⟩] W fun e w' => e = .returned (.tuple #[.int .i64 3, .bool true]) ∧ Below W.heap.size W w') := fun B X W h => find_yes h 3 (by decide)
  have PR : Hid (∀ B X W, Lex B X W Lx.w4 → Calls Try.prog 19 #[nd X, .string ⟨#[77, 65]⟩] W fun e w' => ∃ v, e = .returned v ∧ Oz W w' v [0, 1]) := fun B X W h => by
    have := prefix_any h [77, 65] (by decide) (by decide)
    rwa [Lx.pre_4] at this
  have S1 : Hid (∀ W u, Hl W u [(1, 0), (0, 1), (2, 1)] → Calls Try.prog 14 #[u, .slice (some ⟨W.heap.size, 0, none⟩) 3 3] (W.alloc (.cells #[.int .i64 1, .int .i64 0, .int .i64 0, .int .i64 1, .int .i64 2, .int .i64 1] 38)) fun e w' => e = .returned (.bool true) ∧ Below W.heap.size W w') := fun W u h => by
    refine (same_yes u _ [(1, 0), (0, 1), (2, 1)] _ (h.alloc _) (hl_new W [(1, 0), (0, 1), (2, 1)] 38) (by decide)).mono ?_
    rintro e w' ⟨he, hb⟩
    exact ⟨he, ((Below.refl _ _).alloc (Nat.le_refl _) _).trans (hb.mono (by simp))⟩
  have S2 : Hid (∀ W u, Hl W u [(0, 1)] → Calls Try.prog 14 #[u, .slice (some ⟨W.heap.size, 0, none⟩) 1 1] (W.alloc (.cells #[.int .i64 0, .int .i64 1] 38)) fun e w' => e = .returned (.bool true) ∧ Below W.heap.size W w') := fun W u h => by
    refine (same_yes u _ [(0, 1)] _ (h.alloc _) (hl_new W [(0, 1)] 38) (by decide)).mono ?_
    rintro e w' ⟨he, hb⟩
    exact ⟨he, ((Below.refl _ _).alloc (Nat.le_refl _) _).trans (hb.mono (by simp))⟩
  have S3 : Hid (∀ W u, Hl W u [(0, 1), (1, 1)] → Calls Try.prog 14 #[u, .slice (some ⟨W.heap.size, 0, none⟩) 2 2] (W.alloc (.cells #[.int .i64 0, .int .i64 1, .int .i64 1, .int .i64 1] 38)) fun e w' => e = .returned (.bool true) ∧ Below W.heap.size W w') := fun W u h => by
    refine (same_yes u _ [(0, 1), (1, 1)] _ (h.alloc _) (hl_new W [(0, 1), (1, 1)] 38) (by decide)).mono ?_
    rintro e w' ⟨he, hb⟩
    exact ⟨he, ((Below.refl _ _).alloc (Nat.le_refl _) _).trans (hb.mono (by simp))⟩
  have SI : Hid (∀ W u, Sl W u [0, 1] → Calls Try.prog 18 #[u, .slice (some ⟨W.heap.size, 0, none⟩) 2 2] (W.alloc (.cells #[.int .i64 0, .int .i64 1] 3)) fun e w' => e = .returned (.bool true) ∧ Below W.heap.size W w') := fun W u h => by
    refine (sameInts_yes u _ [0, 1] _ (h.below ((Below.refl _ _).alloc (Nat.le_refl _) _)) (sl_new W [0, 1] 3) (by decide)).mono ?_
    rintro e w' ⟨he, hb⟩
    exact ⟨he, ((Below.refl _ _).alloc (Nat.le_refl _) _).trans (hb.mono (by simp))⟩
  go_enter Try.func7, Try.ntmps7
  go_wp2_with (first
    | (go_at_call 10; (with_reducible refine (N4.out _).mono ?_); rintro e w1 ⟨B, X, rfl, h1⟩; have WY := Lib.hid h1; clear h1)
    | (go_at_call 20; (with_reducible refine (ON.out _).mono ?_); rintro e w2 ⟨rfl, b2⟩; have WY := Lib.hid (WY.out.quiet b2); first | (have H1 := Lib.hid (H1.out.below b2); first | (have H2 := Lib.hid (H2.out.below b2); first | (have H3 := Lib.hid (H3.out.below b2); clear b2) | clear b2) | clear b2) | clear b2)
    | (go_at_call 11; (with_reducible refine (A1.out B _ _ WY.out.lx).mono ?_); rintro e w3 ⟨v1, rfl, O⟩; have WY := Lib.hid (WY.out.quiet O.bl); have H1 := Lib.hid O.hl; clear O)
    | (go_at_call 11; (with_reducible refine (A2.out B _ _ WY.out.lx).mono ?_); rintro e w3 ⟨v2, rfl, O⟩; have WY := Lib.hid (WY.out.quiet O.bl); have H2 := Lib.hid O.hl; have H1 := Lib.hid (H1.out.below O.bl); clear O)
    | (go_at_call 12; (with_reducible refine (A3.out B _ _ WY.out.lx).mono ?_); rintro e w3 ⟨v3, rfl, O⟩; have WY := Lib.hid (WY.out.quiet O.bl); have H3 := Lib.hid O.hl; have H1 := Lib.hid (H1.out.below O.bl); have H2 := Lib.hid (H2.out.below O.bl); clear O)
    | (go_at_call 11; (with_reducible refine (A4.out B _ _ WY.out.lx).mono ?_); rintro e w3 ⟨a4, c4, rfl, b4⟩; have WY := Lib.hid (WY.out.quiet b4); have H1 := Lib.hid (H1.out.below b4); have H2 := Lib.hid (H2.out.below b4); have H3 := Lib.hid (H3.out.below b4); clear b4)
    | (go_at_call 14; (with_reducible refine (S1.out _ _ H1.out).mono ?_); rintro e w5 ⟨rfl, b5⟩; have WY := Lib.hid (WY.out.quiet b5); have H2 := Lib.hid (H2.out.below b5); have H3 := Lib.hid (H3.out.below b5); clear b5)
    | (go_at_call 14; (with_reducible refine (S2.out _ _ H2.out).mono ?_); rintro e w6 ⟨rfl, b5⟩; have WY := Lib.hid (WY.out.quiet b5); have H3 := Lib.hid (H3.out.below b5); clear b5)
    | (go_at_call 14; (with_reducible refine (S3.out _ _ H3.out).mono ?_); rintro e w7 ⟨rfl, b5⟩; have WY := Lib.hid (WY.out.quiet b5); clear b5)
    | (go_at_call 15; (with_reducible refine (FI.out B _ _ WY.out.lx).mono ?_); rintro e w8 ⟨rfl, b5⟩; have WY := Lib.hid (WY.out.quiet b5); clear b5)
    | (go_at_call 10; (with_reducible refine (N2.out _).mono ?_); rintro e w9 ⟨rfl, b5⟩; have WY := Lib.hid (WY.out.quiet b5); clear b5)
    | (go_at_call 10; (with_reducible refine (N3.out _).mono ?_); rintro e w10 ⟨rfl, b5⟩; have WY := Lib.hid (WY.out.quiet b5); clear b5)
    | (go_at_call 19; (with_reducible refine (PR.out B _ _ WY.out.lx).mono ?_); rintro e w11 ⟨v11, rfl, O⟩; have WY := Lib.hid (WY.out.quiet O.bl); have SL := Lib.hid (Sl.of O); clear O)
    | (go_at_call 18; (with_reducible refine (SI.out _ _ SL.out).mono ?_); rintro e w12 ⟨rfl, b5⟩; have WY := Lib.hid (WY.out.quiet b5); clear b5))
  go_ret
  exact ⟨rfl, WY.out.bl⟩
end Go.Proofs.Ytkhgjjbiifbfgaa
