/- Contracts of Right, check, Distance and Within. -/
import Derived.Test.YtkhgjjbiifbfgaaEn
namespace Go.Proofs.Ytkhgjjbiifbfgaa
open Go.RowKit Go.Shelf

namespace Ed
def c1 (n : Int) : Bool := decide (1 ≤ n) && decide (n ≤ 1000)
def Rcb (c : Cs) : Bool := ((c1 c.ins && c1 c.del) && c1 c.chg) && c1 c.swp
theorem c1_iff (n : Int) : c1 n = true ↔ 1 ≤ n ∧ n ≤ 1000 := by
  unfold c1
  rw [Bool.and_eq_true_iff, decide_eq_true_iff, decide_eq_true_iff]
theorem rc_iff (c : Cs) : Rcb c = true ↔ Rc c := by
  unfold Rcb Rc
  rw [Bool.and_eq_true_iff, Bool.and_eq_true_iff, Bool.and_eq_true_iff, c1_iff, c1_iff, c1_iff, c1_iff]
  exact ⟨fun h => ⟨h.1.1.1, h.1.1.2, h.1.2, h.2⟩, fun h => ⟨⟨⟨h.1, h.2.1⟩, h.2.2.1⟩, h.2.2.2⟩⟩
/-- The first error of two texts and costs. -/
def ckv (c : Cs) (xs ys : Bs) : Int := if Rcb c = true then (if xs.length ≤ 60 ∧ ys.length ≤ 60 then 0 else 3) else 2
theorem ckv_ok {c : Cs} {xs ys : Bs} (h : Rc c) (hx : xs.length ≤ 60) (hy : ys.length ≤ 60) : ckv c xs ys = 0 := by
  unfold ckv; rw [if_pos ((rc_iff c).2 h), if_pos ⟨hx, hy⟩]
theorem ckv_zero {c : Cs} {xs ys : Bs} (h : ckv c xs ys = 0) : Rc c ∧ xs.length ≤ 60 ∧ ys.length ≤ 60 := by
  unfold ckv at h
  split at h
  · rename_i hr
    split at h
    · rename_i hl; exact ⟨(rc_iff c).1 hr, hl.1, hl.2⟩
    · omega
  · omega
end Ed
set_option maxHeartbeats 800000 in
theorem isCost_any (n : Int) (w : World) : Calls Try.prog 21 #[.int .i64 n] w fun e w' => e = .returned (.bool (Ed.c1 n)) ∧ w = w' := by
  by_cases h1 : 1 ≤ n
  · have E : Hid (Ed.c1 n = decide (n ≤ 1000)) := by show _ = _; unfold Ed.c1; rw [decide_eq_true h1, Bool.true_and]
    go_enter Try.func21, Try.ntmps21
    go_wp2
    go_ret
    exact ⟨ret_bool E.out.symm, rfl⟩
  · have E : Hid (Ed.c1 n = false) := by show _ = _; unfold Ed.c1; rw [decide_eq_false h1, Bool.false_and]
    go_enter Try.func21, Try.ntmps21
    go_wp2
    go_ret
    exact ⟨ret_bool E.out.symm, rfl⟩
set_option maxRecDepth 100000 in
set_option maxHeartbeats 1600000 in
theorem right_any (c : Ed.Cs) (w : World) : Calls Try.prog 9 #[cv c] w fun e w' => e = .returned (.bool (Ed.Rcb c)) ∧ Below w.heap.size w w' := by
  have I1 := Lib.hid (isCost_any c.ins)
  have I2 := Lib.hid (isCost_any c.del)
  have I3 := Lib.hid (isCost_any c.chg)
  have I4 := Lib.hid (isCost_any c.swp)
  obtain ⟨b1, h1⟩ : ∃ b, b = Ed.c1 c.ins := ⟨_, rfl⟩
  obtain ⟨b2, h2⟩ : ∃ b, b = Ed.c1 c.del := ⟨_, rfl⟩
  obtain ⟨b3, h3⟩ : ∃ b, b = Ed.c1 c.chg := ⟨_, rfl⟩
  obtain ⟨b4, h4⟩ : ∃ b, b = Ed.c1 c.swp := ⟨_, rfl⟩
  have E : Ed.Rcb c = (((b1 && b2) && b3) && b4) := by rw [h1, h2, h3, h4]; rfl
  rw [E]
  rw [← h1] at I1; rw [← h2] at I2; rw [← h3] at I3; rw [← h4] at I4
  clear h1 h2 h3 h4 E
  cases b1 <;> cases b2 <;> cases b3
  all_goals
    go_enter Try.func9, Try.ntmps9
    go_wp2_with (go_at_call 21; first
      | (with_reducible refine (I1.out _).mono ?_; rintro e w1 ⟨rfl, rfl⟩)
      | (with_reducible refine (I2.out _).mono ?_; rintro e w1 ⟨rfl, rfl⟩)
      | (with_reducible refine (I3.out _).mono ?_; rintro e w1 ⟨rfl, rfl⟩)
      | (with_reducible refine (I4.out _).mono ?_; rintro e w1 ⟨rfl, rfl⟩))
    go_ret
    exact ⟨rfl, (Below.refl _ _).alloc (Nat.le_refl _) _⟩
set_option maxRecDepth 100000 in
set_option maxHeartbeats 1600000 in
theorem check_any (c : Ed.Cs) (xs ys : Ed.Bs) (w : World) : Calls Try.prog 27 #[sb xs, sb ys, cv c] w fun e w' => e = .returned (.int .i64 (Ed.ckv c xs ys)) ∧ Below w.heap.size w w' := by
  have RA := Lib.hid (right_any c)
  obtain ⟨a, hxa⟩ : ∃ a : ByteArray, a = ⟨xs.toArray⟩ := ⟨_, rfl⟩
  obtain ⟨b, hxb⟩ : ∃ b : ByteArray, b = ⟨ys.toArray⟩ := ⟨_, rfl⟩
  have LA : a.size = xs.length := by rw [hxa]; exact Ed.size_is xs
  have LB : b.size = ys.length := by rw [hxb]; exact Ed.size_is ys
  have e1 : sb xs = .string a := by rw [hxa]
  have e2 : sb ys = .string b := by rw [hxb]
  rw [e1, e2]
  have CK : Hid (Ed.ckv c xs ys = if Ed.Rcb c = true then (if a.size ≤ 60 ∧ b.size ≤ 60 then 0 else 3) else 2) := by show _ = _; rw [LA, LB]; rfl
  clear hxa hxb LA LB e1 e2
  cases hr : Ed.Rcb c with
  | false =>
    rw [hr] at RA CK
    rw [if_neg (by simp)] at CK
    clear hr
    go_enter Try.func27, Try.ntmps27
    go_wp2_with (go_at_call 9; (with_reducible refine (RA.out _).mono ?_); rintro e w1 ⟨rfl, b1⟩)
    go_ret
    exact ⟨ret_int CK.out.symm, ((Below.refl _ _).alloc (Nat.le_refl _) _).trans (b1.mono (by simp))⟩
  | true =>
    rw [hr] at RA CK
    rw [if_pos rfl] at CK
    clear hr
    by_cases ha : a.size ≤ 60
    · by_cases hb : b.size ≤ 60
      · rw [if_pos ⟨ha, hb⟩] at CK
        go_enter Try.func27, Try.ntmps27
        go_wp2_with (go_at_call 9; (with_reducible refine (RA.out _).mono ?_); rintro e w1 ⟨rfl, b1⟩)
        go_ret
        exact ⟨ret_int CK.out.symm, ((Below.refl _ _).alloc (Nat.le_refl _) _).trans (b1.mono (by simp))⟩
      · rw [if_neg (fun h => hb h.2)] at CK
        go_enter Try.func27, Try.ntmps27
        go_wp2_with (go_at_call 9; (with_reducible refine (RA.out _).mono ?_); rintro e w1 ⟨rfl, b1⟩)
        go_ret
        exact ⟨ret_int CK.out.symm, ((Below.refl _ _).alloc (Nat.le_refl _) _).trans (b1.mono (by simp))⟩
    · rw [if_neg (fun h => ha h.1)] at CK
      go_enter Try.func27, Try.ntmps27
      go_wp2_with (go_at_call 9; (with_reducible refine (RA.out _).mono ?_); rintro e w1 ⟨rfl, b1⟩)
      go_ret
      exact ⟨ret_int CK.out.symm, ((Below.refl _ _).alloc (Nat.le_refl _) _).trans (b1.mono (by simp))⟩
theorem Stab.below {B b : Nat} {w W W' : World} (h : Below b w W) (k : Stab B W W') (h1 : b ≤ B) (h2 : b ≤ W.heap.size) : Below b w W' :=
  ⟨k.os.trans h.os, k.tape.trans h.tape, k.output.trans h.output, Nat.le_trans h.size k.size, fun q hq => (k.block q (by omega) (by omega)).trans (h.block q hq)⟩
set_option maxHeartbeats 800000 in
theorem seen_none (v : Value) (n : Int) (w : World) : Calls Try.prog 29 #[.int .i64 n, v] w fun e w' => e = .returned (.tuple #[]) ∧ w = w' := by
  go_enter Try.func29, Try.ntmps29
  go_wp2
  go_end0
  exact ⟨rfl, rfl⟩
theorem sees_none (c : Ed.Cs) (xs ys : Ed.Bs) (b : Nat) (w w1 : World) (hb : b ≤ w1.heap.size) : Sees w1.heap.size c xs ys 29 #[] (fun W _ => Below b w W ∧ b ≤ W.heap.size) where
  enters := enters_of Try.func29 (by kernel_rfl) rfl
  stab := fun _ _ _ h k => ⟨Stab.below h.1 k hb h.2, Nat.le_trans h.2 k.size⟩
  call := fun W i b h _ _ _ _ _ => (seen_none _ i W).mono fun _ _ ⟨he, hw⟩ => by subst hw; exact ⟨he, h, ⟨Nat.le_refl _, fun _ _ _ => rfl⟩⟩
set_option maxRecDepth 100000 in
set_option maxHeartbeats 1600000 in
theorem distance_ok (c : Ed.Cs) (hc : Ed.Rc c) (xs ys : Ed.Bs) (hx : xs.length ≤ 60) (hy : ys.length ≤ 60) (w : World) : Calls Try.prog 13 #[sb xs, sb ys, cv c] w fun e w' => e = .returned (.tuple #[.int .i64 (Ed.ds c xs ys), .int .i64 0]) ∧ Below w.heap.size w w' := by
  have CK := check_any c xs ys
  rw [Ed.ckv_ok hc hx hy] at CK
  have CH := Lib.hid CK
  have ME : Hid (∀ W, Below w.heap.size w W → Calls Try.prog 28 #[sb xs, sb ys, cv c, .func (.func 29) #[] #[]] W fun e w' => e = .returned (.int .i64 (Ed.ds c xs ys)) ∧ (Below w.heap.size w w' ∧ w.heap.size ≤ w'.heap.size)) := fun W hW =>
    measure_any c hc xs ys hx hy _ _ W (fun W' _ => Below w.heap.size w W' ∧ w.heap.size ≤ W'.heap.size) (sees_none c xs ys w.heap.size w W hW.size) ⟨hW, hW.size⟩
  have B0 := Lib.hid (show Below w.heap.size w (w.alloc (.cells #[.int .i64 c.ins, .int .i64 c.del, .int .i64 c.chg, .int .i64 c.swp] 24)) from (Below.refl _ _).alloc (Nat.le_refl _) _)
  have K : ∀ W, Below (w.alloc (.cells #[.int .i64 c.ins, .int .i64 c.del, .int .i64 c.chg, .int .i64 c.swp] 24)).heap.size (w.alloc (.cells #[.int .i64 c.ins, .int .i64 c.del, .int .i64 c.chg, .int .i64 c.swp] 24)) W → W.cell? ⟨w.heap.size, 0, none⟩ = some (.int .i64 c.ins) ∧ W.cell? ⟨w.heap.size, 1, none⟩ = some (.int .i64 c.del) ∧ W.cell? ⟨w.heap.size, 2, none⟩ = some (.int .i64 c.chg) ∧ W.cell? ⟨w.heap.size, 3, none⟩ = some (.int .i64 c.swp) := fun W b =>
    ⟨below_cell b (cell_at _ _ _ 0 _ _ rfl rfl), below_cell b (cell_at _ _ _ 1 _ _ rfl rfl), below_cell b (cell_at _ _ _ 2 _ _ rfl rfl), below_cell b (cell_at _ _ _ 3 _ _ rfl rfl)⟩
  have KH := Lib.hid K
  clear CK K hc hx hy
  go_enter Try.func13, Try.ntmps13
  go_wp2_with (first
    | (go_at_call 27; (with_reducible refine (CH.out _).mono ?_); rintro e w1 ⟨rfl, b1⟩; obtain ⟨x0, x1, x2, x3⟩ := KH.out _ b1; have B1 := Lib.hid (B0.out.trans (b1.mono B0.out.size)); clear b1)
    | (go_at_call 28; (with_reducible refine (ME.out _ B1.out).mono ?_); rintro e w2 ⟨rfl, b2⟩))
  go_ret2
  exact ⟨rfl, b2.1⟩
set_option maxRecDepth 100000 in
set_option maxHeartbeats 1600000 in
theorem distance_no (c : Ed.Cs) (xs ys : Ed.Bs) (E : Int) (h : Ed.ckv c xs ys = E) (h0 : E ≠ 0) (w : World) : Calls Try.prog 13 #[sb xs, sb ys, cv c] w fun e w' => e = .returned (.tuple #[.int .i64 0, .int .i64 E]) ∧ Below w.heap.size w w' := by
  have CK := check_any c xs ys
  rw [h] at CK
  have CH := Lib.hid CK
  have e0 : (E == 0) = false := beq_eq_false_iff_ne.2 h0
  clear CK h h0
  go_enter Try.func13, Try.ntmps13
  go_wp2_with (go_at_call 27; (with_reducible refine (CH.out _).mono ?_); rintro e w1 ⟨rfl, b1⟩)
  go_ret2
  exact ⟨rfl, ((Below.refl _ _).alloc (Nat.le_refl _) _).trans (b1.mono (by simp))⟩
end Go.Proofs.Ytkhgjjbiifbfgaa
