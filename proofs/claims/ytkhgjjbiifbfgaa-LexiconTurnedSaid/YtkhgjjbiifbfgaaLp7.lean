/- How hits are compared. -/
import Derived.Test.YtkhgjjbiifbfgaaShq
import Derived.Test.YtkhgjjbiifbfgaaLm7
import Derived.Shelf.SlicesG.Cmp
import Derived.StillTailTactics
namespace Go.Proofs.Ytkhgjjbiifbfgaa
open Go.RowKit Go.Shelf Go.Sort

/-- A hit: its word's number and its cost. -/
abbrev Hit := Int × Int
def encH (x : Hit) : List Value := [.int .i64 x.1, .int .i64 x.2]
/-- By costs, then by numbers. -/
def orV (a b : Int) : Int := if a ≠ 0 then a else b
theorem orV_0 (b : Int) : orV 0 b = b := by unfold orV; simp
theorem orV_n {a : Int} (h : ¬ a = 0) (b : Int) : orV a b = a := by unfold orV; rw [if_pos h]
set_option maxHeartbeats 1600000 in
theorem or_any (a b : Int) (g : Nat) (w : World) (h0 : w.cell? ⟨g, 0, none⟩ = some (.int .i64 a)) (h1 : w.cell? ⟨g, 1, none⟩ = some (.int .i64 b)) :
    Calls Try.prog 40 #[.slice (some ⟨g, 0, none⟩) 2 2] w fun e w' => e = .returned (.int .i64 (orV a b)) ∧ w = w' := by
  by_cases ha : a = 0
  · subst ha
    rw [orV_0]
    by_cases hb : b = 0
    all_goals
      go_enter Try.func40, Try.ntmps40
      go_wp2
      go_loop [8] (fun i => ∃ k : Nat, k ≤ 2 ∧ i = .int .i64 k ∧ (k = 2 → b = 0)) (fun i => 2 - (intOf i).toNat)
      case atStart => exact ⟨0, by omega, rfl, fun e => by omega⟩
      case round =>
        obtain ⟨k, hk, rfl, hz⟩ := hrel
        rcases (show k = 0 ∨ k = 1 ∨ k = 2 by omega) with rfl | rfl | rfl
        · clear hz
          go_wp2
          go_round
          case rel => exact ⟨1, by omega, rfl, fun e => by omega⟩
          case measure => simp [intOf]
        · clear hz
          go_wp2
          first
            | (go_ret; exact ⟨rfl, rfl⟩)
            | (go_round
               case rel => exact ⟨2, by omega, rfl, fun _ => hb⟩
               case measure => simp [intOf])
        · have e := hz rfl
          clear hz hb
          subst e
          go_wp2
          go_ret
          exact ⟨rfl, rfl⟩
  · rw [orV_n ha]
    go_enter Try.func40, Try.ntmps40
    go_wp2
    go_loop [8] (fun i => i = .int .i64 0) (fun i => 0)
    case atStart => exact rfl
    case round =>
      subst hrel
      go_wp2
      go_ret
      exact ⟨rfl, rfl⟩
def cmpH (x y : Hit) : Int := orV (Lib.compareInt x.2 y.2) (Lib.compareInt x.1 y.1)
set_option maxRecDepth 100000 in
set_option maxHeartbeats 1600000 in
theorem order1_any (x y : Hit) (w : World) : Calls Try.prog 39 #[.agg #[.int .i64 x.1, .int .i64 x.2], .agg #[.int .i64 y.1, .int .i64 y.2]] w fun e w' => e = .returned (.int .i64 (cmpH x y)) ∧ ∃ q os, w' = grow (w.drewN q) os := by
  have C : ∀ (a b : Int) W, Calls Try.prog 41 #[.int .i64 a, .int .i64 b] W fun e w' => e = .returned (.int .i64 (Lib.compareInt a b)) ∧ w' = W := fun a b W => Try.cmp_Compare_int a b W
  have CA := Lib.hid (C x.2 y.2)
  have CB := Lib.hid (C x.1 y.1)
  obtain ⟨r, hr⟩ : ∃ r, r = cmpH x y := ⟨_, rfl⟩
  have HR := Lib.hid hr
  obtain ⟨a, ha⟩ : ∃ a, a = Lib.compareInt x.2 y.2 := ⟨_, rfl⟩
  obtain ⟨b, hb⟩ : ∃ b, b = Lib.compareInt x.1 y.1 := ⟨_, rfl⟩
  have HO : Hid (orV a b = r) := by show _ = _; rw [hr, ha, hb]; rfl
  rw [← ha] at CA
  rw [← hb] at CB
  rw [← hr]
  obtain ⟨x1, x2⟩ := x
  obtain ⟨y1, y2⟩ := y
  dsimp only at CA CB ⊢
  clear hr ha hb C HR
  go_enter Try.func39, Try.ntmps39
  go_wp2
  obtain ⟨W, hW⟩ : ∃ W, W = (w.alloc (.cells #[.int .i64 x1, .int .i64 x2] 38)).alloc (.cells #[.int .i64 y1, .int .i64 y2] 38) := ⟨_, rfl⟩
  rw [← hW]
  have f1 : W.drew.cell? ⟨w.heap.size, 0, none⟩ = some (.int .i64 x1) := by rw [hW]; exact cell_in _ (cell_at _ _ _ 0 _ _ rfl rfl)
  have f2 : W.drew.cell? ⟨w.heap.size, 1, none⟩ = some (.int .i64 x2) := by rw [hW]; exact cell_in _ (cell_at _ _ _ 1 _ _ rfl rfl)
  have f3 : W.drew.cell? ⟨w.heap.size + 1, 0, none⟩ = some (.int .i64 y1) := by rw [hW]; exact cell_at _ _ _ 0 _ _ (by simp) rfl
  have f4 : W.drew.cell? ⟨w.heap.size + 1, 1, none⟩ = some (.int .i64 y2) := by rw [hW]; exact cell_at _ _ _ 1 _ _ (by simp) rfl
  refine wp_region_still_tail 10 (by kernel_rfl) (by kernel_rfl) ?_
  simp only [List.take_succ_cons, List.take_zero, List.drop_succ_cons, List.drop_zero]
  change wpStill _ _ W.drew (fun a' => wpList _ _ _ _ a' W.drew) _ _
  obtain ⟨V, hV⟩ : ∃ V, V = W.drew := ⟨_, rfl⟩
  have HV : Hid (V = grow (w.drewN 1) #[.cells #[.int .i64 x1, .int .i64 x2] 38, .cells #[.int .i64 y1, .int .i64 y2] 38]) := by
    show _ = _
    rw [hV, hW, alloc_eq_grow, alloc_eq_grow, grow_grow]; rfl
  rw [← hV] at f1 f2 f3 f4 ⊢
  clear hV hW
  iterate 4 still_step
  still_call (CA.out _)
  iterate 4 still_step
  still_call (CB.out _)
  refine wpStill_nil ?_
  go_wp2_with (go_at_call 40; (with_reducible refine (or_any _ _ _ _ (cell_at _ _ _ 0 _ _ rfl rfl) (cell_at _ _ _ 1 _ _ rfl rfl)).mono ?_); rintro e w2 ⟨rfl, rfl⟩)
  go_ret
  exact ⟨ret_int HO.out, 1, _, by rw [alloc_eq_grow, HV.out, grow_grow]⟩
end Go.Proofs.Ytkhgjjbiifbfgaa
