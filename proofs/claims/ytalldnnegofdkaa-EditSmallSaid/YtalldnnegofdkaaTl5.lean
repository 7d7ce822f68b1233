/- The reference's may and Distance. -/
import Derived.Test.YtalldnnegofdkaaTl4
import Derived.Test.YtalldnnegofdkaaAp1
namespace Go.Proofs.Ytalldnnegofdkaa
open Go.RowKit Go.Shelf

theorem Tb.at {c : Ed.Cs} {q m n : Nat} {D : Nat → Nat → Int} {w W : World} (h : Tb c q m n D w W 0) (i j : Nat) (hi : i ≤ m) (hj : j ≤ n) : ∃ g, W.cell? ⟨q, i, none⟩ = some (.slice (some ⟨g, 0, none⟩) (n + 1) (n + 1)) ∧ W.cell? ⟨g, j, none⟩ = some (.int .i64 (D i j)) := by
  obtain ⟨cur, t, h1, h2, h3⟩ := h.mat
  obtain ⟨g, _, h7, h8⟩ := h3 i (Nat.zero_le _) hi
  exact ⟨g, by rw [cell_of_row _ _ _ _ _ _ h1, h7], h8.cell hj⟩
set_option maxRecDepth 100000 in
set_option maxHeartbeats 1600000 in
theorem rmay_any (c : Ed.Cs) (xs ys : Ed.Bs) (w : World) : Calls Try.prog 45 #[sb xs, sb ys, cv c] w fun e w' => e = .returned (.int .i64 (Ed.ckv c xs ys)) ∧ Below w.heap.size w w' := by
  have RA := Lib.hid (rright_any c)
  obtain ⟨a, hxa⟩ : ∃ a : ByteArray, a = ⟨xs.toArray⟩ := ⟨_, rfl⟩
  obtain ⟨b, hxb⟩ : ∃ b : ByteArray, b = ⟨ys.toArray⟩ := ⟨_, rfl⟩
  have LA : a.size = xs.length := by rw [hxa]; exact Ed.size_is xs
  have LB : b.size = ys.length := by rw [hxb]; exact Ed.size_is ys
  have e1 : sb xs = .string a := by rw [hxa]
  have e2 : sb ys = .string b := by rw [hxb]
  rw [e1, e2]
  have CK : Hid (Ed.ckv c xs ys = if Ed.Rcb c = true then (if a.size ≤ 60 ∧ b.size ≤ 60 then 0 else 3) else 2) := by show _ = _; rw [LA, LB]; rfl
  clear hxa hxb LA LB e1 e2
  cases hr : Ed.Rcb c with
  | false =>
    rw [hr] at RA CK
    rw [if_neg (by simp)] at CK
    clear hr
    go_enter Try.func45, Try.ntmps45
    go_wp2_with (go_at_call 29; (with_reducible refine (RA.out _).mono ?_); rintro e w1 ⟨rfl, b1⟩)
    go_ret
    exact ⟨ret_int CK.out.symm, ((Below.refl _ _).alloc (Nat.le_refl _) _).trans (b1.mono (by simp))⟩
  | true =>
    rw [hr] at RA CK
    rw [if_pos rfl] at CK
    clear hr
    by_cases ha : a.size ≤ 60
    · by_cases hb : b.size ≤ 60
      · rw [if_pos ⟨ha, hb⟩] at CK
        go_enter Try.func45, Try.ntmps45
        go_wp2_with (go_at_call 29; (with_reducible refine (RA.out _).mono ?_); rintro e w1 ⟨rfl, b1⟩)
        go_ret
        exact ⟨ret_int CK.out.symm, ((Below.refl _ _).alloc (Nat.le_refl _) _).trans (b1.mono (by simp))⟩
      · rw [if_neg (fun h => hb h.2)] at CK
        go_enter Try.func45, Try.ntmps45
        go_wp2_with (go_at_call 29; (with_reducible refine (RA.out _).mono ?_); rintro e w1 ⟨rfl, b1⟩)
        go_ret
        exact ⟨ret_int CK.out.symm, ((Below.refl _ _).alloc (Nat.le_refl _) _).trans (b1.mono (by simp))⟩
    · rw [if_neg (fun h => ha h.1)] at CK
      go_enter Try.func45, Try.ntmps45
      go_wp2_with (go_at_call 29; (with_reducible refine (RA.out _).mono ?_); rintro e w1 ⟨rfl, b1⟩)
      go_ret
      exact ⟨ret_int CK.out.symm, ((Below.refl _ _).alloc (Nat.le_refl _) _).trans (b1.mono (by simp))⟩
set_option maxRecDepth 100000 in
set_option maxHeartbeats 1600000 in
theorem rdistance_no (c : Ed.Cs) (xs ys : Ed.Bs) (E : Int) (h : Ed.ckv c xs ys = E) (h0 : E ≠ 0) (w : World) : Calls Try.prog 28 #[sb xs, sb ys, cv c] w fun e w' => e = .returned (.tuple #[.int .i64 0, .int .i64 E]) ∧ Below w.heap.size w w' := by
  have CK := rmay_any c xs ys
  rw [h] at CK
  have CH := Lib.hid CK
  have e0 : (E == 0) = false := beq_eq_false_iff_ne.2 h0
  have e1 : (E != 0) = true := by rw [bne, e0]; rfl
  clear CK h h0
  go_enter Try.func28, Try.ntmps28
  go_wp2_with (go_at_call 45; (with_reducible refine (CH.out _).mono ?_); rintro e w1 ⟨rfl, b1⟩)
  go_ret2
  exact ⟨rfl, ((Below.refl _ _).alloc (Nat.le_refl _) _).trans (b1.mono (by simp))⟩
set_option maxRecDepth 100000 in
set_option maxHeartbeats 1600000 in
theorem rdistance_ok (c : Ed.Cs) (hc : Ed.Rc c) (xs ys : Ed.Bs) (hx : xs.length ≤ 60) (hy : ys.length ≤ 60) (w : World) : Calls Try.prog 28 #[sb xs, sb ys, cv c] w fun e w' => e = .returned (.tuple #[.int .i64 (Ed.ds c xs ys), .int .i64 0]) ∧ Below w.heap.size w w' := by
  have CK := rmay_any c xs ys
  rw [Ed.ckv_ok hc hx hy] at CK
  have CH := Lib.hid CK
  have TA := Lib.hid (fun W => rtable_any c hc xs ys hx hy W)
  obtain ⟨m, hm⟩ : ∃ m, m = xs.length := ⟨_, rfl⟩
  obtain ⟨n, hn⟩ : ∃ n, n = ys.length := ⟨_, rfl⟩
  rw [← hm] at hx
  rw [← hn] at hy
  rw [← hm, ← hn] at TA
  obtain ⟨D, hD⟩ : ∃ D : Nat → Nat → Int, D = fun i j => Ed.ds c (xs.drop i) (ys.drop j) := ⟨_, rfl⟩
  have D0 : Ed.ds c xs ys = D 0 0 := by rw [hD]; rfl
  rw [← hD] at TA
  rw [D0]
  have z1 : (0 : Int) < (m : Int) + 1 := by omega
  have z2 : (0 : Int) < (n : Int) + 1 := by omega
  have B0 := Lib.hid (show Below w.heap.size w (w.alloc (.cells #[.int .i64 c.ins, .int .i64 c.del, .int .i64 c.chg, .int .i64 c.swp] 58)) from (Below.refl _ _).alloc (Nat.le_refl _) _)
  have K0 : Hid (Cbx (w.alloc (.cells #[.int .i64 c.ins, .int .i64 c.del, .int .i64 c.chg, .int .i64 c.swp] 58)) w.heap.size c) := heap_alloc_new _ _
  clear CK hc hm hn hD D0
  go_enter Try.func28, Try.ntmps28
  go_wp2_with (first
    | (go_at_call 45; (with_reducible refine (CH.out _).mono ?_); rintro e w1 ⟨rfl, b1⟩; have K1 := Lib.hid (K0.out.quiet b1); have B1 := Lib.hid (B0.out.trans (b1.mono B0.out.size)); obtain ⟨x0, x1, x2, x3⟩ := K1.out.cells; clear b1)
    | (go_at_call 46; (with_reducible refine (TA.out _).mono ?_); rintro e w2 ⟨rfl, t2⟩; obtain ⟨g, m1, m2⟩ := t2.at 0 0 (Nat.zero_le _) (Nat.zero_le _); have B2 := Lib.hid (B1.out.trans (t2.bl.mono B1.out.size)); clear t2))
  go_ret2
  exact ⟨rfl, B2.out⟩
end Go.Proofs.Ytalldnnegofdkaa
