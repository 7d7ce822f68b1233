/- CivilWrong: its walk. -/
import Derived.Test.YtcnnfgigpjbcpaaDoorS0
namespace Go.Proofs.YtcnnfgigpjbcpaaDoor
open Go.RowKit
theorem y230 : ydB 230 = false := by decide
theorem yzero : ydB 0 = false := by decide
theorem rightf {q : Int} (h : 0 ≤ q) : Hol.right [q, 0] = false := by
  rw [← Bool.not_eq_true, Hol.right_iff]
  rintro ⟨_, i⟩
  rw [Hol.inc_cons, Hol.inc_cons] at i
  omega
theorem sl_two (w : World) (x y : Int) (t : TypeId) (c : Nat) : Sl (w.alloc (.cells #[.int .i64 x, .int .i64 y] t)) (.slice (some ⟨w.heap.size, 0, none⟩) 2 c) [x, y] :=
  ⟨_, c, rfl, Or.inr ⟨_, _, rfl, fun j hj => by
    have : j = 0 ∨ j = 1 := by simp at hj; omega
    rcases this with rfl | rfl
    · rw [World.cell?_alloc_at _ _ _ _ (by simp)]; rfl
    · rw [World.cell?_alloc_at _ _ _ _ (by simp)]; rfl⟩⟩
theorem right_eq (v : Value) (zs : List Int) (b : Bool) (w : World) (h : Sl w v zs) (hb : Hol.right zs = b) : Calls Tryd.prog 40 #[v] w fun e w' => e = .returned (.bool b) ∧ w = w' := by
  subst hb; exact right_any v zs w h
set_option maxRecDepth 100000 in
set_option maxHeartbeats 6400000 in
theorem walk_civilWrong (n : Int) (_n1 : -9223372036854775808 ≤ n) (_n2 : n ≤ 9223372036854775807) (m : Int) (_m1 : -9223372036854775808 ≤ m) (_m2 : m ≤ 9223372036854775807) (w : World) (G : Gl w) :
    Calls Tryd.prog 13 #[.int .i64 n, .int .i64 m] w fun e w' => e = .returned (.bool true) ∧ Below w.heap.size w w' := by
  have P := Lib.hid (fun w => pick_any n 1099511627776 w (by omega) (by omega))
  have Q := Lib.hid (fun w => pick_any m 1099511627776 w (by omega) (by omega))
  obtain ⟨x, hx⟩ : ∃ x, x = n % 1099511627776 := ⟨_, rfl⟩
  obtain ⟨z, hz⟩ : ∃ x, x = m % 1099511627776 := ⟨_, rfl⟩
  have x0 : 0 ≤ x := by omega
  have x1 : x < 1099511627776 := by omega
  have z0 : 0 ≤ z := by omega
  have z1 : z < 1099511627776 := by omega
  rw [← hx] at P
  rw [← hz] at Q
  clear hx hz
  go_enter Tryd.func13, Tryd.ntmps13
  go_wp2_with (first | (go_at_call 19; refine (awake_any w _ (St.refl G)).mono ?_; rintro e w1 ⟨rfl, S1⟩)  | (go_at_call 26; (with_reducible refine (P.out _).mono ?_); rintro e w' ⟨rfl, rfl⟩) | (go_at_call 26; (with_reducible refine (Q.out _).mono ?_); rintro e w' ⟨rfl, rfl⟩))
  have E1 := err_neg (n := -1 - x) (g := 730484) (by omega)
  have E2 := err_neg (n := -1 - z) (g := 1051898399) (by omega)
  have E3 := err_long (n := 730485 + x) (g := 730484) (by omega) (by omega)
  have E4 := err_long (n := 1051898400 + z) (g := 1051898399) (by omega) (by omega)
  refine wp_loop_rounds 3 ?_
  rw [rounds_succ]
  go_wp2_with (first | (go_at_call 27; refine (date_bad _ _ (by omega)).mono ?_; rintro e w' ⟨rfl, rfl⟩)  | (go_at_call 28; refine (weekday_bad _ _ (by omega)).mono ?_; rintro e w' ⟨rfl, rfl⟩) | (go_at_call 31; refine (text_bad _ _ (by omega)).mono ?_; rintro e w' ⟨rfl, rfl⟩)  | (go_at_call 39; refine (time_bad _ 0 _ (by omega) (by omega) (by omega)).mono ?_; rintro e w' ⟨rfl, rfl⟩) | (go_at_call 30; refine (split_bad _ _ (by omega)).mono ?_; rintro e w' ⟨rfl, rfl⟩)  | (go_at_call 29; refine (ttext_bad _ _ (by omega)).mono ?_; rintro e w' ⟨rfl, rfl⟩) | (go_at_call 35; refine (works_bad _ _ [] _ (Sl.nil _ _ _) right0 (by omega)).mono ?_; rintro e w' ⟨rfl, rfl⟩)  | (go_at_call 38; refine (yearly_bad _ _ _ _ (by omega)).mono ?_; rintro e w' ⟨rfl, rfl⟩) | (go_at_call 34; refine (between_arg _ _ _ [] _ (Sl.nil _ _ _) (Or.inr (Or.inl (by omega)))).mono ?_; rintro e w' ⟨rfl, rfl⟩) | (go_at_call 36; fail))
  refine (ahead_bad _ 0 _ [] _ (Sl.nil _ _ _) right0 (by omega) (by omega)).mono ?_
  rintro e w2 ⟨rfl, hb2⟩
  have sz := hb2.size
  simp only [World.size_alloc] at sz
  have S2 := (S1.step (by go_grown)).step hb2
  have k0 := hb2.cell (p := ⟨w1.heap.size + 1, 0, none⟩) (by simp only [World.size_alloc]; omega)
  have k1 := hb2.cell (p := ⟨w1.heap.size + 1, 1, none⟩) (by simp only [World.size_alloc]; omega)
  have k2 := hb2.cell (p := ⟨w1.heap.size + 1, 2, none⟩) (by simp only [World.size_alloc]; omega)
  have j3 := hb2.cell (p := ⟨w1.heap.size, 3, none⟩) (by simp only [World.size_alloc]; omega)
  have j4 := hb2.cell (p := ⟨w1.heap.size, 4, none⟩) (by simp only [World.size_alloc]; omega)
  have j5 := hb2.cell (p := ⟨w1.heap.size, 5, none⟩) (by simp only [World.size_alloc]; omega)
  simp at k0 k1 k2 j3 j4 j5
  clear hb2
  go_wp2_with (first | (go_at_call 27; refine (date_bad _ _ (by omega)).mono ?_; rintro e w' ⟨rfl, rfl⟩)  | (go_at_call 28; refine (weekday_bad _ _ (by omega)).mono ?_; rintro e w' ⟨rfl, rfl⟩) | (go_at_call 31; refine (text_bad _ _ (by omega)).mono ?_; rintro e w' ⟨rfl, rfl⟩)  | (go_at_call 39; refine (time_bad _ 0 _ (by omega) (by omega) (by omega)).mono ?_; rintro e w' ⟨rfl, rfl⟩) | (go_at_call 30; refine (split_bad _ _ (by omega)).mono ?_; rintro e w' ⟨rfl, rfl⟩)  | (go_at_call 29; refine (ttext_bad _ _ (by omega)).mono ?_; rintro e w' ⟨rfl, rfl⟩) | (go_at_call 35; refine (works_bad _ _ [] _ (Sl.nil _ _ _) right0 (by omega)).mono ?_; rintro e w' ⟨rfl, rfl⟩)  | (go_at_call 38; refine (yearly_bad _ _ _ _ (by omega)).mono ?_; rintro e w' ⟨rfl, rfl⟩) | (go_at_call 34; refine (between_arg _ _ _ [] _ (Sl.nil _ _ _) (Or.inr (Or.inl (by omega)))).mono ?_; rintro e w' ⟨rfl, rfl⟩) | (go_at_call 36; fail))
  rw [rounds_succ]
  go_wp2_with (first | (go_at_call 27; refine (date_bad _ _ (by omega)).mono ?_; rintro e w' ⟨rfl, rfl⟩)  | (go_at_call 28; refine (weekday_bad _ _ (by omega)).mono ?_; rintro e w' ⟨rfl, rfl⟩) | (go_at_call 31; refine (text_bad _ _ (by omega)).mono ?_; rintro e w' ⟨rfl, rfl⟩)  | (go_at_call 39; refine (time_bad _ 0 _ (by omega) (by omega) (by omega)).mono ?_; rintro e w' ⟨rfl, rfl⟩) | (go_at_call 30; refine (split_bad _ _ (by omega)).mono ?_; rintro e w' ⟨rfl, rfl⟩)  | (go_at_call 29; refine (ttext_bad _ _ (by omega)).mono ?_; rintro e w' ⟨rfl, rfl⟩) | (go_at_call 35; refine (works_bad _ _ [] _ (Sl.nil _ _ _) right0 (by omega)).mono ?_; rintro e w' ⟨rfl, rfl⟩)  | (go_at_call 38; refine (yearly_bad _ _ _ _ (by omega)).mono ?_; rintro e w' ⟨rfl, rfl⟩) | (go_at_call 34; refine (between_long _ _ _ [] _ (Sl.nil _ _ _) right0 (by omega) (by omega) (by omega)).mono ?_; rintro e w' ⟨rfl, rfl⟩) | (go_at_call 36; fail))
  refine (ahead_bad _ 0 _ [] _ (Sl.nil _ _ _) right0 (by omega) (by omega)).mono ?_
  rintro e w3 ⟨rfl, hb3⟩
  have S3 := (S2.step (by go_grown)).step hb3
  have l0 := hb3.cell (p := ⟨w2.heap.size, 0, none⟩) (by simp only [World.size_alloc]; omega)
  have l1 := hb3.cell (p := ⟨w2.heap.size, 1, none⟩) (by simp only [World.size_alloc]; omega)
  have l2 := hb3.cell (p := ⟨w2.heap.size, 2, none⟩) (by simp only [World.size_alloc]; omega)
  simp at l0 l1 l2
  clear hb3 k0 k1 k2 j3 j4 j5
  go_wp2_with (first | (go_at_call 27; refine (date_bad _ _ (by omega)).mono ?_; rintro e w' ⟨rfl, rfl⟩)  | (go_at_call 28; refine (weekday_bad _ _ (by omega)).mono ?_; rintro e w' ⟨rfl, rfl⟩) | (go_at_call 31; refine (text_bad _ _ (by omega)).mono ?_; rintro e w' ⟨rfl, rfl⟩)  | (go_at_call 39; refine (time_bad _ 0 _ (by omega) (by omega) (by omega)).mono ?_; rintro e w' ⟨rfl, rfl⟩) | (go_at_call 30; refine (split_bad _ _ (by omega)).mono ?_; rintro e w' ⟨rfl, rfl⟩)  | (go_at_call 29; refine (ttext_bad _ _ (by omega)).mono ?_; rintro e w' ⟨rfl, rfl⟩) | (go_at_call 35; refine (works_bad _ _ [] _ (Sl.nil _ _ _) right0 (by omega)).mono ?_; rintro e w' ⟨rfl, rfl⟩)  | (go_at_call 38; refine (yearly_bad _ _ _ _ (by omega)).mono ?_; rintro e w' ⟨rfl, rfl⟩) | (go_at_call 34; refine (between_long _ _ _ [] _ (Sl.nil _ _ _) right0 (by omega) (by omega) (by omega)).mono ?_; rintro e w' ⟨rfl, rfl⟩) | (go_at_call 36; fail))
  have R := Lib.hid (fun w => pick_any n 1000 w (by omega) (by omega))
  obtain ⟨q, hq⟩ : ∃ q, q = n % 1000 := ⟨_, rfl⟩
  have q0 : 0 ≤ q := by omega
  rw [← hq] at R
  clear hq l0 l1 l2
  have RF := Lib.hid (rightf q0)
  rw [rounds_succ]
  go_wp2_with (first | (go_at_call 26; (with_reducible refine (R.out _).mono ?_); rintro e w' ⟨rfl, rfl⟩)  | (go_at_call 35; refine (works_list _ _ [q, 0] _ (sl_two _ _ _ _ _) RF.out).mono ?_; rintro e w' ⟨rfl, rfl⟩)  | (go_at_call 34; refine (between_arg _ _ _ [q, 0] _ (sl_two _ _ _ _ _) (Or.inl RF.out)).mono ?_; rintro e w' ⟨rfl, rfl⟩) | (go_at_call 36; fail))
  refine (ahead_arg _ _ _ [q, 0] _ (sl_two _ _ _ _ _) (Or.inl RF.out)).mono ?_
  rintro e w4 ⟨rfl, hb4⟩
  have S4 := (S3.step (by go_grown)).step hb4
  have SL := Lib.hid ((sl_two w3 q 0 3 2).below hb4)
  clear hb4
  go_wp2_with (first | (go_at_call 38; (with_reducible refine (yearly_date _ d0 (by omega) (by omega) (by omega) (by omega) (Or.inr y230) S4.gl).mono ?_); rintro e w' ⟨rfl, rfl⟩)  | (go_at_call 38; (with_reducible refine (yearly_date _ d0 (by omega) (by omega) (by omega) (by omega) (Or.inl yzero) S4.gl).mono ?_); rintro e w' ⟨rfl, rfl⟩)  | (go_at_call 40; refine (right_eq _ [q, 0] false _ SL.out RF.out).mono ?_; rintro e w' ⟨rfl, rfl⟩))
  go_ret
  exact ⟨rfl, S4.bl⟩
end Go.Proofs.YtcnnfgigpjbcpaaDoor
