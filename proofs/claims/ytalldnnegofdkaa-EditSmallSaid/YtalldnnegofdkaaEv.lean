/- The contract of Path. -/
import Derived.Test.YtalldnnegofdkaaEt
namespace Go.Proofs.Ytalldnnegofdkaa
open Go.RowKit Go.Shelf

theorem info_row : (Try.prog.info? 73).map (fun i => (i.zero, i.size, i.bytes)) = some (some (.slice none 0 0), 1, 24) := by kernel_rfl
theorem Kept.start {b B rv q m n : Nat} {D : Nat → Nat → Int} {w W : World} (h : Below b w W) (hb : b ≤ W.heap.size) (hv : W.cell? ⟨rv, 0, none⟩ = some (.slice (some ⟨q, 0, none⟩) (m + 1) (m + 1))) (cur : Array Value) (t : TypeId) (hq : W.heap[q]? = some (.cells cur t (0, 0))) (hs : cur.size = m + 1) : Kept b B rv q m n D w W (m + 1) :=
  ⟨h, hb, hv, cur, t, hq, hs, fun j h1 h2 => by omega⟩
theorem kept_made (w1 : World) (m n k : Nat) (D : Nat → Nat → Int) (hk : k = m) :
    w1.heap.size + 1 < ((w1.alloc (.cells (madeCells #[.slice none 0 0] (k + 1)) 73)).alloc (.cells #[.slice (some ⟨w1.heap.size, 0, none⟩) (k + 1) (k + 1)] 94)).heap.size ∧
    w1.heap.size < ((w1.alloc (.cells (madeCells #[.slice none 0 0] (k + 1)) 73)).alloc (.cells #[.slice (some ⟨w1.heap.size, 0, none⟩) (k + 1) (k + 1)] 94)).heap.size ∧ w1.heap.size + 1 ≠ w1.heap.size ∧
    Kept w1.heap.size ((w1.alloc (.cells (madeCells #[.slice none 0 0] (k + 1)) 73)).alloc (.cells #[.slice (some ⟨w1.heap.size, 0, none⟩) (k + 1) (k + 1)] 94)).heap.size (w1.heap.size + 1) w1.heap.size m n D w1 ((w1.alloc (.cells (madeCells #[.slice none 0 0] (k + 1)) 73)).alloc (.cells #[.slice (some ⟨w1.heap.size, 0, none⟩) (k + 1) (k + 1)] 94)) (m + 1) := by
  subst hk
  refine ⟨by simp, by simp; omega, by omega, Kept.start (((Below.refl _ _).alloc (Nat.le_refl _) _).alloc (by simp) _) (by simp; omega) (cell_at _ _ _ 0 _ _ (by simp) rfl) (madeCells #[.slice none 0 0] (k + 1)) 73 ?_ (by simp [size_madeCells])⟩
  rw [Below.heap_alloc _ _ _ (by simp)]; exact heap_alloc_new _ _
set_option maxRecDepth 100000 in
set_option maxHeartbeats 3200000 in
theorem path_ok (c : Ed.Cs) (hc : Ed.Rc c) (xs ys : Ed.Bs) (hx : xs.length ≤ 60) (hy : ys.length ≤ 60) (w : World) : Calls Try.prog 21 #[sb xs, sb ys, cv c] w fun e w' => ∃ v, e = .returned (.tuple #[v, .int .i64 (Ed.ds c xs ys), .int .i64 0]) ∧ Oo w w' v (Ed.path c xs ys) := by
  have CK := check_any c xs ys
  rw [Ed.ckv_ok hc hx hy] at CK
  have CH := Lib.hid CK
  obtain ⟨a, hxa⟩ : ∃ a : ByteArray, a = ⟨xs.toArray⟩ := ⟨_, rfl⟩
  have LA : a.size = xs.length := by rw [hxa]; exact Ed.size_is xs
  have e1 : sb xs = .string a := by rw [hxa]
  have la : a.size ≤ 60 := by rw [LA]; exact hx
  have MI : Hid (∀ w, (Instr.makeSlice 94 (.int .i64 ((a.size : Int) + 1)) (.int .i64 ((a.size : Int) + 1))).run Try.prog w = .ok (.slice (some ⟨w.heap.size, 0, none⟩) (a.size + 1) (a.size + 1)) (w.alloc (.cells (madeCells #[.slice none 0 0] (a.size + 1)) 73))) := run_make_row' (P := Try.prog) 94 73 (.slice none 0 0) 24 Try.underlying94 info_row rfl .i64 .i64 (a.size + 1) (by omega) (by omega)
  have ME : Hid (∀ w1 W rv q, rv < W.heap.size → w1.heap.size ≤ q → q < W.heap.size → rv ≠ q → Kept w1.heap.size W.heap.size rv q xs.length ys.length (fun i j => Ed.ds c (xs.drop i) (ys.drop j)) w1 W (xs.length + 1) →
      Calls Try.prog 35 #[.string a, sb ys, cv c, .func (.func 42) #[] #[.pointer (some ⟨rv, 0, none⟩)]] W fun e w' => e = .returned (.int .i64 (Ed.ds c xs ys)) ∧ Kept w1.heap.size W.heap.size rv q xs.length ys.length (fun i j => Ed.ds c (xs.drop i) (ys.drop j)) w1 w' 0) := fun w1 W rv q h1 h2 h3 h4 h5 => by
    have := measure_any c hc xs ys hx hy 42 #[.pointer (some ⟨rv, 0, none⟩)] W (fun W' i => Kept w1.heap.size W.heap.size rv q xs.length ys.length (fun i j => Ed.ds c (xs.drop i) (ys.drop j)) w1 W' i) (sees_path c xs ys hy w1.heap.size rv q w1 W h2 h3 h1 h4) h5
    rw [e1] at this
    exact this
  have WA : Hid (∀ W q, Mat W q xs.length ys.length (fun i j => Ed.ds c (xs.drop i) (ys.drop j)) → Calls Try.prog 44 #[.string a, sb ys, cv c, .slice (some ⟨q, 0, none⟩) (a.size + 1) (a.size + 1)] W fun e w' => ∃ v, e = .returned v ∧ Oo W w' v (Ed.path c xs ys)) := fun W q h => by
    have := walk_any c hc xs ys hx hy q W h
    rw [e1, ← LA] at this
    exact this
  have HLA := Lib.hid LA
  rw [e1] at CH ⊢
  have B0 := Lib.hid (show Below w.heap.size w (w.alloc (.cells #[.int .i64 c.ins, .int .i64 c.del, .int .i64 c.chg, .int .i64 c.swp] 23)) from (Below.refl _ _).alloc (Nat.le_refl _) _)
  have K0 := Lib.hid (Bxc.made w c)
  clear CK hc hx hy hxa LA e1
  go_enter Try.func21, Try.ntmps21
  go_wp2_with (first
    | (go_at_call 34; (with_reducible refine (CH.out _).mono ?_); rintro e w1 ⟨rfl, b1⟩; have K1 := Lib.hid (K0.out.below b1); have B1 := Lib.hid (B0.out.trans (b1.mono B0.out.size)); have x0 := fun o p => cell_in p (cell_in o K1.out.x0); have x1 := fun o p => cell_in p (cell_in o K1.out.x1); have x2 := fun o p => cell_in p (cell_in o K1.out.x2); have x3 := fun o p => cell_in p (cell_in o K1.out.x3); clear b1; have mi := MI.out; have KS := Lib.hid (kept_made w1 xs.length ys.length a.size (fun i j => Ed.ds c (xs.drop i) (ys.drop j)) HLA.out))
    | (go_at_call 35; (with_reducible refine (ME.out w1 _ _ w1.heap.size KS.out.1 (Nat.le_refl _) KS.out.2.1 KS.out.2.2.1 KS.out.2.2.2).mono ?_); rintro e w2 ⟨rfl, k2⟩; have K2 := Lib.hid k2; have z0 := k2.var; rw [← HLA.out] at z0; have K3 := K1.out.below k2.bl; obtain ⟨y0, y1, y2, y3⟩ := K3; clear x0 x1 x2 x3 mi k2)
    | (go_at_call 44; (with_reducible refine (WA.out _ _ K2.out.to_mat).mono ?_); rintro e w3 ⟨v, rfl, o3⟩))
  go_ret3
  exact ⟨_, rfl, o3.weak (B1.out.trans (K2.out.bl.mono B1.out.size))⟩
set_option maxRecDepth 100000 in
set_option maxHeartbeats 1600000 in
theorem path_no (c : Ed.Cs) (xs ys : Ed.Bs) (E : Int) (h : Ed.ckv c xs ys = E) (h0 : E ≠ 0) (w : World) : Calls Try.prog 21 #[sb xs, sb ys, cv c] w fun e w' => e = .returned (.tuple #[.slice none 0 0, .int .i64 0, .int .i64 E]) ∧ Below w.heap.size w w' := by
  have CK := check_any c xs ys
  rw [h] at CK
  have CH := Lib.hid CK
  have e0 : (E == 0) = false := beq_eq_false_iff_ne.2 h0
  clear CK h h0
  go_enter Try.func21, Try.ntmps21
  go_wp2_with (go_at_call 34; (with_reducible refine (CH.out _).mono ?_); rintro e w1 ⟨rfl, b1⟩)
  go_ret3
  exact ⟨rfl, ((Below.refl _ _).alloc (Nat.le_refl _) _).trans (b1.mono (by simp))⟩
set_option maxRecDepth 100000 in
set_option maxHeartbeats 1600000 in
theorem within_ok (c : Ed.Cs) (hc : Ed.Rc c) (xs ys : Ed.Bs) (hx : xs.length ≤ 60) (hy : ys.length ≤ 60) (most : Int) (w : World) : Calls Try.prog 24 #[sb xs, sb ys, cv c, .int .i64 most] w fun e w' => e = .returned (.tuple #[.int .i64 (if Ed.ds c xs ys ≤ most then Ed.ds c xs ys else 0), .bool (decide (Ed.ds c xs ys ≤ most)), .int .i64 0]) ∧ Below w.heap.size w w' := by
  have DI := Lib.hid (distance_ok c hc xs ys hx hy)
  obtain ⟨d, hd⟩ : ∃ d, d = Ed.ds c xs ys := ⟨_, rfl⟩
  rw [← hd] at DI ⊢
  clear hd hc hx hy
  by_cases h : d ≤ most
  · rw [if_pos h, decide_eq_true h]
    go_enter Try.func24, Try.ntmps24
    go_wp2_with (go_at_call 16; (with_reducible refine (DI.out _).mono ?_); rintro e w1 ⟨rfl, b1⟩)
    go_ret3
    exact ⟨rfl, ((Below.refl _ _).alloc (Nat.le_refl _) _).trans (b1.mono (by simp))⟩
  · rw [if_neg h, decide_eq_false h]
    go_enter Try.func24, Try.ntmps24
    go_wp2_with (go_at_call 16; (with_reducible refine (DI.out _).mono ?_); rintro e w1 ⟨rfl, b1⟩)
    go_ret3
    exact ⟨rfl, ((Below.refl _ _).alloc (Nat.le_refl _) _).trans (b1.mono (by simp))⟩
set_option maxRecDepth 100000 in
set_option maxHeartbeats 1600000 in
theorem within_no (c : Ed.Cs) (xs ys : Ed.Bs) (E : Int) (h : Ed.ckv c xs ys = E) (h0 : E ≠ 0) (most : Int) (w : World) : Calls Try.prog 24 #[sb xs, sb ys, cv c, .int .i64 most] w fun e w' => e = .returned (.tuple #[.int .i64 0, .bool false, .int .i64 E]) ∧ Below w.heap.size w w' := by
  have DI := Lib.hid (distance_no c xs ys E h h0)
  have e0 : (E == 0) = false := beq_eq_false_iff_ne.2 h0
  have e1 : (E != 0) = true := by rw [bne, e0]; rfl
  clear h
  go_enter Try.func24, Try.ntmps24
  go_wp2_with (go_at_call 16; (with_reducible refine (DI.out _).mono ?_); rintro e w1 ⟨rfl, b1⟩)
  go_ret3
  exact ⟨rfl, ((Below.refl _ _).alloc (Nat.le_refl _) _).trans (b1.mono (by simp))⟩
end Go.Proofs.Ytalldnnegofdkaa
