/- awake holds. -/
import Derived.Test.YtalldnnegofdkaaEa
import Derived.Deep.DeepCutAuto
namespace Go.Proofs.Ytalldnnegofdkaa
open Go.RowKit Go.Shelf

theorem kb_made (w : World) (ks : List Nat) (cs : Array Value) (t : TypeId) (n : Nat) (h : cs = (ks.map fun k => Value.int .u8 (k : Nat)).toArray) (hn : n = ks.length) : Kb (w.alloc (.cells cs t)) (.slice (some ⟨w.heap.size, 0, none⟩) n n) ks := by
  subst h hn
  refine ⟨_, _, rfl, fun j hj => cell_at _ _ _ j _ _ rfl ?_⟩
  simp [hj]
theorem rep_false (n j : Nat) : (Array.replicate n false).getD j false = false := by
  rw [Array.getD_eq_getD_getElem?, Array.getElem?_replicate]
  split <;> rfl
theorem left_le (l : Array Bool) : ∀ n, left l n ≤ n
  | 0 => Nat.le_refl 0
  | n + 1 => by
    have := left_le l n
    unfold left
    split <;> omega
theorem aw_rc (k : Nat) : Ed.Rc (Ed.rC k) := by
  unfold Ed.rC Ed.Rc
  split <;> simp
theorem aw_len (k : Nat) : (Ed.rA k).length ≤ 60 ∧ (Ed.rB k).length ≤ 60 := by
  unfold Ed.rA Ed.rB
  constructor <;> split <;> simp
theorem aw_ll (k : Nat) : (Ed.rL k).length ≤ 1000000 := by
  match k with
  | 0 => decide
  | 1 => decide
  | 2 => decide
  | 3 => decide
  | _ + 4 => show (Ed.klf [66] [4, 5]).length ≤ 1000000; decide
theorem aw_ds (k : Nat) (h : k < 5) : Ed.ds (Ed.rC k) (Ed.rA k) (Ed.rB k) = Ed.rN k := by
  match k, h with
  | 0, _ => decide +kernel
  | 1, _ => decide +kernel
  | 2, _ => decide +kernel
  | 3, _ => decide +kernel
  | 4, _ => decide +kernel
theorem aw_path (k : Nat) (h : k < 5) : Ed.path (Ed.rC k) (Ed.rA k) (Ed.rB k) = Ed.rL k := by
  rw [← Ed.eqs_iff]
  match k, h with
  | 0, _ => decide +kernel
  | 1, _ => decide +kernel
  | 2, _ => decide +kernel
  | 3, _ => decide +kernel
  | 4, _ => decide +kernel
/-- A row in a box. -/
structure Box8 (W : World) (B : Nat) (A Bb : Ed.Bs) (C : Ed.Cs) (N : Int) (z : Value) : Prop where
  c0 : W.cell? ⟨B, 0, none⟩ = some (sb A)
  c1 : W.cell? ⟨B, 1, none⟩ = some (sb Bb)
  c2 : W.cell? ⟨B, 2, none⟩ = some (.int .i64 C.ins)
  c3 : W.cell? ⟨B, 3, none⟩ = some (.int .i64 C.del)
  c4 : W.cell? ⟨B, 4, none⟩ = some (.int .i64 C.chg)
  c5 : W.cell? ⟨B, 5, none⟩ = some (.int .i64 C.swp)
  c6 : W.cell? ⟨B, 6, none⟩ = some (.int .i64 N)
  c7 : W.cell? ⟨B, 7, none⟩ = some z
theorem Box8.below {W W' : World} {B : Nat} {A Bb : Ed.Bs} {C : Ed.Cs} {N : Int} {z : Value} (h : Box8 W B A Bb C N z) (b : Below W.heap.size W W') : Box8 W' B A Bb C N z :=
  ⟨below_cell b h.c0, below_cell b h.c1, below_cell b h.c2, below_cell b h.c3, below_cell b h.c4, below_cell b h.c5, below_cell b h.c6, below_cell b h.c7⟩
theorem box8 {w W' : World} {A Bb : Ed.Bs} {C : Ed.Cs} {N : Int} {z : Value} {t : TypeId} (b : Below (w.alloc (.cells #[sb A, sb Bb, .int .i64 C.ins, .int .i64 C.del, .int .i64 C.chg, .int .i64 C.swp, .int .i64 N, z] t)).heap.size (w.alloc (.cells #[sb A, sb Bb, .int .i64 C.ins, .int .i64 C.del, .int .i64 C.chg, .int .i64 C.swp, .int .i64 N, z] t)) W') : Box8 W' w.heap.size A Bb C N z :=
  Box8.below ⟨cell_at _ _ _ 0 _ _ rfl rfl, cell_at _ _ _ 1 _ _ rfl rfl, cell_at _ _ _ 2 _ _ rfl rfl, cell_at _ _ _ 3 _ _ rfl rfl, cell_at _ _ _ 4 _ _ rfl rfl, cell_at _ _ _ 5 _ _ rfl rfl, cell_at _ _ _ 6 _ _ rfl rfl, cell_at _ _ _ 7 _ _ rfl rfl⟩ b
theorem aw_w1 (w : World) : Calls Try.prog 24 #[.string ⟨#[77, 65, 73, 78]⟩, .string ⟨#[77, 73, 78, 69]⟩, cv ⟨1, 1, 1, 1⟩, .int .i64 1] w fun e w' => e = .returned (.tuple #[.int .i64 0, .bool false, .int .i64 0]) ∧ Below w.heap.size w w' := by
  have h := within_ok ⟨1, 1, 1, 1⟩ (aw_rc 0) [77, 65, 73, 78] [77, 73, 78, 69] (by decide) (by decide) 1 w
  rw [show Ed.ds ⟨1, 1, 1, 1⟩ [77, 65, 73, 78] [77, 73, 78, 69] = 2 by decide +kernel] at h
  exact h
theorem aw_w2 (w : World) : Calls Try.prog 24 #[.string ⟨#[77, 65, 73, 78]⟩, .string ⟨#[77, 73, 78, 69]⟩, cv ⟨1, 1, 1, 1⟩, .int .i64 2] w fun e w' => e = .returned (.tuple #[.int .i64 2, .bool true, .int .i64 0]) ∧ Below w.heap.size w w' := by
  have h := within_ok ⟨1, 1, 1, 1⟩ (aw_rc 0) [77, 65, 73, 78] [77, 73, 78, 69] (by decide) (by decide) 2 w
  rw [show Ed.ds ⟨1, 1, 1, 1⟩ [77, 65, 73, 78] [77, 73, 78, 69] = 2 by decide +kernel] at h
  exact h
theorem aw_k3 (w : World) : Calls Try.prog 25 #[.string ⟨#[]⟩, .slice (some ⟨w.heap.size, 0, none⟩) 1 1] (w.alloc (.cells #[.int .u8 3] 5)) fun e w' => ∃ v, e = .returned v ∧ Oo (w.alloc (.cells #[.int .u8 3] 5)) w' v [⟨3, 0⟩] :=
  kinds_any [] [3] _ _ (kb_made w [3] _ _ _ rfl rfl) (by decide) (by decide)
theorem aw_k1 (w : World) : Calls Try.prog 25 #[.string ⟨#[]⟩, .slice (some ⟨w.heap.size, 0, none⟩) 1 1] (w.alloc (.cells #[.int .u8 1] 5)) fun e w' => ∃ v, e = .returned v ∧ Oo (w.alloc (.cells #[.int .u8 1] 5)) w' v [⟨1, 0⟩] :=
  kinds_any [] [1] _ _ (kb_made w [1] _ _ _ rfl rfl) (by decide) (by decide)
theorem aw_k2 (w : World) : Calls Try.prog 25 #[.string ⟨#[65]⟩, .slice (some ⟨w.heap.size, 0, none⟩) 1 1] (w.alloc (.cells #[.int .u8 2] 5)) fun e w' => ∃ v, e = .returned v ∧ Oo (w.alloc (.cells #[.int .u8 2] 5)) w' v [⟨2, 65⟩] :=
  kinds_any [65] [2] _ _ (kb_made w [2] _ _ _ rfl rfl) (by decide) (by decide)
theorem aw_a1 (v : Value) (w : World) (h : Opl w v [⟨3, 0⟩]) : Calls Try.prog 19 #[.string ⟨#[65, 66]⟩, v] w fun e w' => e = .returned (.tuple #[.string ⟨#[66, 65]⟩, .int .i64 0]) ∧ Below w.heap.size w w' := by
  have k := apply_ok [65, 66] [⟨3, 0⟩] v w (by decide) (by decide) (by intro o ho; rw [List.mem_singleton] at ho; subst ho; decide) h
  rw [show Ed.apV [⟨3, 0⟩] [65, 66] = ([66, 65], 0) by decide +kernel] at k
  exact k
theorem aw_a2 (v : Value) (w : World) (h : Opl w v [⟨3, 0⟩]) : Calls Try.prog 19 #[.string ⟨#[65, 65]⟩, v] w fun e w' => e = .returned (.tuple #[.string ⟨#[]⟩, .int .i64 60]) ∧ Below w.heap.size w w' := by
  have k := apply_ok [65, 65] [⟨3, 0⟩] v w (by decide) (by decide) (by intro o ho; rw [List.mem_singleton] at ho; subst ho; decide) h
  rw [show Ed.apV [⟨3, 0⟩] [65, 65] = ([], 60) by decide +kernel] at k
  exact k
theorem aw_a3 (v : Value) (w : World) (h : Opl w v [⟨1, 0⟩]) : Calls Try.prog 19 #[.string ⟨#[65, 66]⟩, v] w fun e w' => e = .returned (.tuple #[.string ⟨#[]⟩, .int .i64 60]) ∧ Below w.heap.size w w' := by
  have k := apply_ok [65, 66] [⟨1, 0⟩] v w (by decide) (by decide) (by intro o ho; rw [List.mem_singleton] at ho; subst ho; decide) h
  rw [show Ed.apV [⟨1, 0⟩] [65, 66] = ([], 60) by decide +kernel] at k
  exact k
theorem aw_a4 (v : Value) (w : World) (h : Opl w v [⟨2, 65⟩]) : Calls Try.prog 19 #[.string ⟨#[65]⟩, v] w fun e w' => e = .returned (.tuple #[.string ⟨#[]⟩, .int .i64 60]) ∧ Below w.heap.size w w' := by
  have k := apply_ok [65] [⟨2, 65⟩] v w (by decide) (by decide) (by intro o ho; rw [List.mem_singleton] at ho; subst ho; decide) h
  rw [show Ed.apV [⟨2, 65⟩] [65] = ([], 60) by decide +kernel] at k
  exact k
set_option maxRecDepth 100000 in
set_option maxHeartbeats 6400000 in
theorem awake_any (w : World) : Calls Try.prog 11 #[] w fun e w' => e = .returned (.bool true) ∧ Below w.heap.size w w' := by
  have O1 := Lib.hid ones_any
  go_enter Try.func11, Try.ntmps11
  go_upto_region 3 with (go_at_call 14; (with_reducible refine (O1.out _).mono ?_); rintro e w1 ⟨rfl, b1⟩)
  obtain ⟨p, hp⟩ : ∃ p, p = w1.heap.size := ⟨_, rfl⟩
  have B0 := Lib.hid (b1.alloc b1.size (.cells #[.int .i64 1, .int .i64 1, .int .i64 3, .int .i64 1] 23))
  have D0 := Lib.hid (show Bxc (w1.alloc (.cells #[.int .i64 1, .int .i64 1, .int .i64 3, .int .i64 1] 23)) p ⟨1, 1, 3, 1⟩ from by rw [hp]; exact Bxc.made w1 ⟨1, 1, 3, 1⟩)
  obtain ⟨w2, hw2⟩ : ∃ x, x = w1.alloc (.cells #[.int .i64 1, .int .i64 1, .int .i64 3, .int .i64 1] 23) := ⟨_, rfl⟩
  rw [← hw2] at B0 D0 ⊢
  rw [← hp]
  clear hw2 hp b1
  refine wp_region_any (by kernel_rfl) ?_
  refine wpAny_inv (Aw p w2) ?_ ?_ _ _ _ _ ⟨by simp, ⟨fun _ => undef, rfl, fun j _ hl => ?_⟩, ?_⟩ ?_
  · intro l a wx i hI hr
    obtain ⟨hs, ⟨x, rfl, hv⟩, hb⟩ := hI
    have hi : i < 23 := (ready_lt hr).1
    match i, hi with
    | 0, _ =>
      refine wpOp_of_list rfl ?_
      unfold awf
      go_wp2_with (go_at_call 14; (with_reducible refine (O1.out _).mono ?_); rintro e w3 ⟨rfl, b3⟩)
      exact Aw.put (v := cv ⟨1, 1, 1, 1⟩) hs hv hb b3 rfl rfl
    | 1, _ =>
      refine wpOp_of_list rfl ?_
      unfold awf
      go_wp2
      exact Aw.put (v := .slice (some ⟨wx.heap.size, 0, none⟩) 3 3) hs hv hb ((Below.refl _ _).alloc (Nat.le_refl _) _) (kb_made wx (Ed.rK 0) _ _ _ rfl rfl) rfl
    | 2, _ =>
      refine wpOp_of_list rfl ?_
      have kb : Kb wx (x 1) (Ed.rK 0) := hv 1 (by omega) (dep hr rfl rfl)
      unfold awf
      go_wp2_with (go_at_call 25; refine (kinds_any (Ed.rU 0) (Ed.rK 0) (x 1) _ kb (by decide) (by decide)).mono ?_; rintro e w3 ⟨v, rfl, o3⟩)
      exact Aw.put (v := v) hs hv hb o3.bl o3.opl rfl
    | 3, _ =>
      refine wpOp_of_list rfl ?_
      have h0 : x 0 = cv ⟨1, 1, 1, 1⟩ := hv 0 (by omega) (dep hr rfl rfl)
      have h1 : Opl wx (x 2) (Ed.rL 0) := hv 2 (by omega) (dep hr rfl rfl)
      have h2 := h1
      obtain ⟨z0, z1, e1, -⟩ := h2
      unfold awf
      go_wp2
      show Aw p w2 (l.setIfInBounds 3 true) _ _
      refine Aw.put (i := 3) (v := rowv 0 (x 2)) hs hv hb (Below.refl _ _) ⟨_, rfl, h1⟩ ?_
      simp [awf, upd, h0, e1, rowv, Ed.rA, Ed.rB, Ed.rC, Ed.rN]
    | 4, _ =>
      refine wpOp_of_list rfl ?_
      unfold awf
      go_wp2_with (go_at_call 14; (with_reducible refine (O1.out _).mono ?_); rintro e w3 ⟨rfl, b3⟩)
      exact Aw.put (v := cv ⟨1, 1, 1, 1⟩) hs hv hb b3 rfl rfl
    | 5, _ =>
      refine wpOp_of_list rfl ?_
      unfold awf
      go_wp2
      exact Aw.put (v := .slice (some ⟨wx.heap.size, 0, none⟩) 5 5) hs hv hb ((Below.refl _ _).alloc (Nat.le_refl _) _) (kb_made wx (Ed.rK 1) _ _ _ rfl rfl) rfl
    | 6, _ =>
      refine wpOp_of_list rfl ?_
      have kb : Kb wx (x 5) (Ed.rK 1) := hv 5 (by omega) (dep hr rfl rfl)
      unfold awf
      go_wp2_with (go_at_call 25; refine (kinds_any (Ed.rU 1) (Ed.rK 1) (x 5) _ kb (by decide) (by decide)).mono ?_; rintro e w3 ⟨v, rfl, o3⟩)
      exact Aw.put (v := v) hs hv hb o3.bl o3.opl rfl
    | 7, _ =>
      refine wpOp_of_list rfl ?_
      have h0 : x 4 = cv ⟨1, 1, 1, 1⟩ := hv 4 (by omega) (dep hr rfl rfl)
      have h1 : Opl wx (x 6) (Ed.rL 1) := hv 6 (by omega) (dep hr rfl rfl)
      have h2 := h1
      obtain ⟨z0, z1, e1, -⟩ := h2
      unfold awf
      go_wp2
      show Aw p w2 (l.setIfInBounds 7 true) _ _
      refine Aw.put (i := 7) (v := rowv 1 (x 6)) hs hv hb (Below.refl _ _) ⟨_, rfl, h1⟩ ?_
      simp [awf, upd, h0, e1, rowv, Ed.rA, Ed.rB, Ed.rC, Ed.rN]
    | 8, _ =>
      refine wpOp_of_list rfl ?_
      unfold awf
      go_wp2_with (go_at_call 14; (with_reducible refine (O1.out _).mono ?_); rintro e w3 ⟨rfl, b3⟩)
      exact Aw.put (v := cv ⟨1, 1, 1, 1⟩) hs hv hb b3 rfl rfl
    | 9, _ =>
      refine wpOp_of_list rfl ?_
      unfold awf
      go_wp2
      exact Aw.put (v := .slice (some ⟨wx.heap.size, 0, none⟩) 2 2) hs hv hb ((Below.refl _ _).alloc (Nat.le_refl _) _) (kb_made wx (Ed.rK 2) _ _ _ rfl rfl) rfl
    | 10, _ =>
      refine wpOp_of_list rfl ?_
      have kb : Kb wx (x 9) (Ed.rK 2) := hv 9 (by omega) (dep hr rfl rfl)
      unfold awf
      go_wp2_with (go_at_call 25; refine (kinds_any (Ed.rU 2) (Ed.rK 2) (x 9) _ kb (by decide) (by decide)).mono ?_; rintro e w3 ⟨v, rfl, o3⟩)
      exact Aw.put (v := v) hs hv hb o3.bl o3.opl rfl
    | 11, _ =>
      refine wpOp_of_list rfl ?_
      have h0 : x 8 = cv ⟨1, 1, 1, 1⟩ := hv 8 (by omega) (dep hr rfl rfl)
      have h1 : Opl wx (x 10) (Ed.rL 2) := hv 10 (by omega) (dep hr rfl rfl)
      have h2 := h1
      obtain ⟨z0, z1, e1, -⟩ := h2
      unfold awf
      go_wp2
      show Aw p w2 (l.setIfInBounds 11 true) _ _
      refine Aw.put (i := 11) (v := rowv 2 (x 10)) hs hv hb (Below.refl _ _) ⟨_, rfl, h1⟩ ?_
      simp [awf, upd, h0, e1, rowv, Ed.rA, Ed.rB, Ed.rC, Ed.rN]
    | 12, _ =>
      refine wpOp_of_list rfl ?_
      unfold awf
      go_wp2_with (go_at_call 14; (with_reducible refine (O1.out _).mono ?_); rintro e w3 ⟨rfl, b3⟩)
      exact Aw.put (v := cv ⟨1, 1, 1, 1⟩) hs hv hb b3 rfl rfl
    | 13, _ =>
      refine wpOp_of_list rfl ?_
      unfold awf
      go_wp2
      exact Aw.put (v := .slice (some ⟨wx.heap.size, 0, none⟩) 3 3) hs hv hb ((Below.refl _ _).alloc (Nat.le_refl _) _) (kb_made wx (Ed.rK 3) _ _ _ rfl rfl) rfl
    | 14, _ =>
      refine wpOp_of_list rfl ?_
      have kb : Kb wx (x 13) (Ed.rK 3) := hv 13 (by omega) (dep hr rfl rfl)
      unfold awf
      go_wp2_with (go_at_call 25; refine (kinds_any (Ed.rU 3) (Ed.rK 3) (x 13) _ kb (by decide) (by decide)).mono ?_; rintro e w3 ⟨v, rfl, o3⟩)
      exact Aw.put (v := v) hs hv hb o3.bl o3.opl rfl
    | 15, _ =>
      refine wpOp_of_list rfl ?_
      have h0 : x 12 = cv ⟨1, 1, 1, 1⟩ := hv 12 (by omega) (dep hr rfl rfl)
      have h1 : Opl wx (x 14) (Ed.rL 3) := hv 14 (by omega) (dep hr rfl rfl)
      have h2 := h1
      obtain ⟨z0, z1, e1, -⟩ := h2
      unfold awf
      go_wp2
      show Aw p w2 (l.setIfInBounds 15 true) _ _
      refine Aw.put (i := 15) (v := rowv 3 (x 14)) hs hv hb (Below.refl _ _) ⟨_, rfl, h1⟩ ?_
      simp [awf, upd, h0, e1, rowv, Ed.rA, Ed.rB, Ed.rC, Ed.rN]
    | 16, _ =>
      refine wpOp_of_list rfl ?_
      obtain ⟨d0, d1, d2, d3⟩ := D0.out.below hb
      unfold awf
      go_wp2
      exact Aw.put (v := cv ⟨1, 1, 3, 1⟩) hs hv hb (Below.refl _ _) rfl rfl
    | 17, _ =>
      refine wpOp_of_list rfl ?_
      unfold awf
      go_wp2
      exact Aw.put (v := .slice (some ⟨wx.heap.size, 0, none⟩) 2 2) hs hv hb ((Below.refl _ _).alloc (Nat.le_refl _) _) (kb_made wx (Ed.rK 4) _ _ _ rfl rfl) rfl
    | 18, _ =>
      refine wpOp_of_list rfl ?_
      have kb : Kb wx (x 17) (Ed.rK 4) := hv 17 (by omega) (dep hr rfl rfl)
      unfold awf
      go_wp2_with (go_at_call 25; refine (kinds_any (Ed.rU 4) (Ed.rK 4) (x 17) _ kb (by decide) (by decide)).mono ?_; rintro e w3 ⟨v, rfl, o3⟩)
      exact Aw.put (v := v) hs hv hb o3.bl o3.opl rfl
    | 19, _ =>
      refine wpOp_of_list rfl ?_
      have h0 : x 16 = cv ⟨1, 1, 3, 1⟩ := hv 16 (by omega) (dep hr rfl rfl)
      have h1 : Opl wx (x 18) (Ed.rL 4) := hv 18 (by omega) (dep hr rfl rfl)
      have h2 := h1
      obtain ⟨z0, z1, e1, -⟩ := h2
      unfold awf
      go_wp2
      show Aw p w2 (l.setIfInBounds 19 true) _ _
      refine Aw.put (i := 19) (v := rowv 4 (x 18)) hs hv hb (Below.refl _ _) ⟨_, rfl, h1⟩ ?_
      simp [awf, upd, h0, e1, rowv, Ed.rA, Ed.rB, Ed.rC, Ed.rN]
    | 20, _ =>
      refine wpOp_of_list rfl ?_
      obtain ⟨z0, h0, p0⟩ : ∃ z, x 3 = rowv 0 z ∧ Opl wx z (Ed.rL 0) := hv 3 (by omega) (dep hr rfl rfl)
      obtain ⟨z1, h1, p1⟩ : ∃ z, x 7 = rowv 1 z ∧ Opl wx z (Ed.rL 1) := hv 7 (by omega) (dep hr rfl rfl)
      obtain ⟨z2, h2, p2⟩ : ∃ z, x 11 = rowv 2 z ∧ Opl wx z (Ed.rL 2) := hv 11 (by omega) (dep hr rfl rfl)
      obtain ⟨z3, h3, p3⟩ : ∃ z, x 15 = rowv 3 z ∧ Opl wx z (Ed.rL 3) := hv 15 (by omega) (dep hr rfl rfl)
      obtain ⟨z4, h4, p4⟩ : ∃ z, x 19 = rowv 4 z ∧ Opl wx z (Ed.rL 4) := hv 19 (by omega) (dep hr rfl rfl)
      unfold rowv Ed.rA Ed.rB Ed.rC Ed.rN at h0 h1 h2 h3 h4
      unfold awf
      go_wp2
      show Aw p w2 (l.setIfInBounds 20 true) _ _
      refine Aw.put (i := 20) (v := .slice (some ⟨wx.heap.size, 0, none⟩) 5 5) hs hv hb ((Below.refl _ _).alloc (Nat.le_refl _) _) ⟨_, rfl, fun j hj => ?_⟩ (by simp [awf, upd, h0, h1, h2, h3, h4])
      match j, hj with
      | 0, _ => exact ⟨z0, p0.below ((Below.refl _ _).alloc (Nat.le_refl _) _), cell_at _ _ _ 0 _ _ rfl rfl, cell_at _ _ _ 1 _ _ rfl rfl, cell_at _ _ _ 2 _ _ rfl rfl, cell_at _ _ _ 3 _ _ rfl rfl, cell_at _ _ _ 4 _ _ rfl rfl, cell_at _ _ _ 5 _ _ rfl rfl, cell_at _ _ _ 6 _ _ rfl rfl, cell_at _ _ _ 7 _ _ rfl rfl⟩
      | 1, _ => exact ⟨z1, p1.below ((Below.refl _ _).alloc (Nat.le_refl _) _), cell_at _ _ _ 8 _ _ rfl rfl, cell_at _ _ _ 9 _ _ rfl rfl, cell_at _ _ _ 10 _ _ rfl rfl, cell_at _ _ _ 11 _ _ rfl rfl, cell_at _ _ _ 12 _ _ rfl rfl, cell_at _ _ _ 13 _ _ rfl rfl, cell_at _ _ _ 14 _ _ rfl rfl, cell_at _ _ _ 15 _ _ rfl rfl⟩
      | 2, _ => exact ⟨z2, p2.below ((Below.refl _ _).alloc (Nat.le_refl _) _), cell_at _ _ _ 16 _ _ rfl rfl, cell_at _ _ _ 17 _ _ rfl rfl, cell_at _ _ _ 18 _ _ rfl rfl, cell_at _ _ _ 19 _ _ rfl rfl, cell_at _ _ _ 20 _ _ rfl rfl, cell_at _ _ _ 21 _ _ rfl rfl, cell_at _ _ _ 22 _ _ rfl rfl, cell_at _ _ _ 23 _ _ rfl rfl⟩
      | 3, _ => exact ⟨z3, p3.below ((Below.refl _ _).alloc (Nat.le_refl _) _), cell_at _ _ _ 24 _ _ rfl rfl, cell_at _ _ _ 25 _ _ rfl rfl, cell_at _ _ _ 26 _ _ rfl rfl, cell_at _ _ _ 27 _ _ rfl rfl, cell_at _ _ _ 28 _ _ rfl rfl, cell_at _ _ _ 29 _ _ rfl rfl, cell_at _ _ _ 30 _ _ rfl rfl, cell_at _ _ _ 31 _ _ rfl rfl⟩
      | 4, _ => exact ⟨z4, p4.below ((Below.refl _ _).alloc (Nat.le_refl _) _), cell_at _ _ _ 32 _ _ rfl rfl, cell_at _ _ _ 33 _ _ rfl rfl, cell_at _ _ _ 34 _ _ rfl rfl, cell_at _ _ _ 35 _ _ rfl rfl, cell_at _ _ _ 36 _ _ rfl rfl, cell_at _ _ _ 37 _ _ rfl rfl, cell_at _ _ _ 38 _ _ rfl rfl, cell_at _ _ _ 39 _ _ rfl rfl⟩
      | j + 5, h => exact absurd h (by omega)
    | 21, _ =>
      refine wpOp_of_list rfl ?_
      obtain ⟨g, hg, -⟩ : Rws wx (x 20) := hv 20 (by omega) (dep hr rfl rfl)
      unfold awf
      go_wp2
      show Aw p w2 (l.setIfInBounds 21 true) _ _
      refine Aw.put (i := 21) (v := .int .i64 5) hs hv hb (Below.refl _ _) rfl ?_
      simp [awf, upd, hg]
    | 22, _ =>
      refine wpOp_of_list rfl ?_
      unfold awf
      go_wp2
      exact Aw.put (v := .int .i64 0) hs hv hb (Below.refl _ _) rfl rfl
    | i + 23, h => exact absurd h (by omega)
  · intro l a wx hI hr
    obtain ⟨hs, ⟨x, rfl, hv⟩, hb⟩ := hI
    have all := fun i (hi : i < 23) => done_all (by kernel_rfl) (by rw [hs]; rfl) hr i hi
    have get : ∀ i, i < 23 → aV i (x i) wx := fun i hi => hv i hi (by
      have h := all i hi
      have hlt : i < l.size := by omega
      rw [Array.getD_eq_getD_getElem?, Array.getElem?_eq_getElem hlt] at h ⊢
      exact h)
    obtain ⟨g, h20, hrow⟩ : Rws wx (x 20) := get 20 (by omega)
    have h21 : x 21 = .int .i64 5 := get 21 (by omega)
    have h22 : x 22 = .int .i64 0 := get 22 (by omega)
    have HR := Lib.hid hrow
    have HB := Lib.hid (B0.out.trans (hb.mono B0.out.size))
    clear get all hv hrow hb hs hr D0
    unfold awf
    rw [h20, h21, h22]
    clear h20 h21 h22
    go_wp2
    go_loopw [47] (fun s wr => ∃ k : Nat, s = .int .i64 k ∧ k ≤ 5 ∧ Hid (Below wx.heap.size wx wr)) (fun s _ => 5 - (intOf s).toNat)
    case atStart => exact ⟨0, rfl, by omega, Below.refl _ _⟩
    case round =>
      obtain ⟨k, rfl, hk, B⟩ := hrel
      by_cases hlt : k < 5
      · obtain ⟨z, hz, c0, c1, c2, c3, c4, c5, c6, c7⟩ := HR.out k hlt
        have hz := hz.below B.out
        have c0 := below_cell B.out c0
        have c1 := below_cell B.out c1
        have c2 := below_cell B.out c2
        have c3 := below_cell B.out c3
        have c4 := below_cell B.out c4
        have c5 := below_cell B.out c5
        have c6 := below_cell B.out c6
        have c7 := below_cell B.out c7
        have D1 := distance_ok (Ed.rC k) (aw_rc k) (Ed.rA k) (Ed.rB k) (aw_len k).1 (aw_len k).2
        have P1 := path_ok (Ed.rC k) (aw_rc k) (Ed.rA k) (Ed.rB k) (aw_len k).1 (aw_len k).2
        rw [aw_ds k hlt] at D1 P1
        rw [aw_path k hlt] at P1
        obtain ⟨A, hA⟩ : ∃ A, A = Ed.rA k := ⟨_, rfl⟩
        obtain ⟨BBs, hBB⟩ : ∃ A, A = Ed.rB k := ⟨_, rfl⟩
        obtain ⟨C, hC⟩ : ∃ A, A = Ed.rC k := ⟨_, rfl⟩
        obtain ⟨N, hN⟩ : ∃ A, A = Ed.rN k := ⟨_, rfl⟩
        obtain ⟨L, hL⟩ : ∃ A, A = Ed.rL k := ⟨_, rfl⟩
        have LL : L.length ≤ 1000000 := by rw [hL]; exact aw_ll k
        rw [← hA] at c0 D1 P1
        rw [← hBB] at c1 D1 P1
        rw [← hC] at c2 c3 c4 c5 D1 P1
        rw [← hN] at c6 D1 P1
        rw [← hL] at hz P1
        obtain ⟨z0, z1, ez, hz2⟩ := hz
        subst ez
        have hz := Lib.hid (show Opl wr (.slice z0 L.length z1) L from ⟨z0, z1, rfl, hz2⟩)
        have DH := Lib.hid D1
        have PH := Lib.hid P1
        have B1 := Lib.hid (B.out.alloc B.out.size (.cells #[sb A, sb BBs, .int .i64 C.ins, .int .i64 C.del, .int .i64 C.chg, .int .i64 C.swp, .int .i64 N, .slice z0 L.length z1] (56)))
        clear D1 P1 hA hBB hC hN hL hz2
        go_wp2_with (first
          | (go_at_call 16; (with_reducible refine (DH.out _).mono ?_); rintro e w3 ⟨rfl, b3⟩; have B3 := Lib.hid (B1.out.trans (b3.mono B1.out.size)); have Z3 := Lib.hid ((hz.out.below ((Below.refl _ _).alloc (Nat.le_refl _) _)).below b3); have X3 := Lib.hid (box8 b3); obtain ⟨c0, c1, c2, c3, c4, c5, c6, c7⟩ := X3.out; clear b3)
          | (go_at_call 21; (with_reducible refine (PH.out _).mono ?_); rintro e w4 ⟨v, rfl, o4⟩; have B4 := Lib.hid (B3.out.trans (o4.bl.mono B3.out.size)); have Z4 := Lib.hid (Z3.out.below o4.bl); have O4 := Lib.hid o4.opl; have X4 := Lib.hid (X3.out.below o4.bl); obtain ⟨c0, c1, c2, c3, c4, c5, c6, c7⟩ := X4.out; clear o4)
          | (go_at_call 26; (with_reducible refine (same_any _ _ L L _ O4.out Z4.out LL).mono ?_); rw [(Ed.eqs_iff L L).2 rfl]; rintro e w5 ⟨rfl, b5⟩; have B5 := Lib.hid (B4.out.trans (b5.mono B4.out.size)); clear b5))
        go_roundw
        case rel => exact ⟨k + 1, by go_num, by omega, B5.out⟩
        case measure => simp [intOf]; omega
      · obtain rfl : k = 5 := by omega
        have BB := Lib.hid (HB.out.trans (B.out.mono HB.out.size))
        have W1 := Lib.hid (aw_w1)
        have W2 := Lib.hid (aw_w2)
        have K3 := Lib.hid (aw_k3)
        have K1 := Lib.hid (aw_k1)
        have K2 := Lib.hid (aw_k2)
        have A1 := Lib.hid (aw_a1)
        have A2 := Lib.hid (aw_a2)
        have A3 := Lib.hid (aw_a3)
        have A4 := Lib.hid (aw_a4)
        clear B
        go_wp2_with (first
          | (go_at_call 14; (with_reducible refine (O1.out _).mono ?_); rintro e w3 ⟨rfl, b3⟩; have BB := Lib.hid (BB.out.trans (b3.mono BB.out.size)); clear b3)
          | (go_at_call 24; (with_reducible refine (W1.out _).mono ?_); rintro e w3 ⟨rfl, b3⟩; have BB := Lib.hid (BB.out.trans (b3.mono BB.out.size)); clear b3)
          | (go_at_call 24; (with_reducible refine (W2.out _).mono ?_); rintro e w3 ⟨rfl, b3⟩; have BB := Lib.hid (BB.out.trans (b3.mono BB.out.size)); clear b3)
          | (go_at_call 25; (with_reducible refine (K3.out _).mono ?_); rintro e w3 ⟨v, rfl, ok⟩; have BB := Lib.hid ((BB.out.alloc BB.out.size _).trans (ok.bl.mono (BB.out.alloc BB.out.size _).size)); have OK := Lib.hid ok.opl; clear ok)
          | (go_at_call 25; (with_reducible refine (K1.out _).mono ?_); rintro e w3 ⟨v, rfl, ok⟩; have BB := Lib.hid ((BB.out.alloc BB.out.size _).trans (ok.bl.mono (BB.out.alloc BB.out.size _).size)); have OK := Lib.hid ok.opl; clear ok)
          | (go_at_call 25; (with_reducible refine (K2.out _).mono ?_); rintro e w3 ⟨v, rfl, ok⟩; have BB := Lib.hid ((BB.out.alloc BB.out.size _).trans (ok.bl.mono (BB.out.alloc BB.out.size _).size)); have OK := Lib.hid ok.opl; clear ok)
          | (go_at_call 19; (with_reducible refine (A1.out _ _ OK.out).mono ?_); rintro e w4 ⟨rfl, b4⟩; have BB := Lib.hid (BB.out.trans (b4.mono BB.out.size)); clear b4 OK)
          | (go_at_call 19; (with_reducible refine (A2.out _ _ OK.out).mono ?_); rintro e w4 ⟨rfl, b4⟩; have BB := Lib.hid (BB.out.trans (b4.mono BB.out.size)); clear b4 OK)
          | (go_at_call 19; (with_reducible refine (A3.out _ _ OK.out).mono ?_); rintro e w4 ⟨rfl, b4⟩; have BB := Lib.hid (BB.out.trans (b4.mono BB.out.size)); clear b4 OK)
          | (go_at_call 19; (with_reducible refine (A4.out _ _ OK.out).mono ?_); rintro e w4 ⟨rfl, b4⟩; have BB := Lib.hid (BB.out.trans (b4.mono BB.out.size)); clear b4 OK))
        go_ret
        exact ⟨rfl, BB.out⟩
  · rw [rep_false] at hl
    cases hl
  · exact (Below.refl _ _).drew
  · exact left_le _ _
end Go.Proofs.Ytalldnnegofdkaa
