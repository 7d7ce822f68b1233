/- Whether a chance exceeds a risk, as a closure; the closures of the search. -/
import Derived.Test.YtjfopggpohakkaaSf
namespace Go.Proofs.Ytjfopggpohakkaa
open Go.RowKit Go.Shelf

theorem Sum.below {g x : Nat} {V V' : World} (h : Sum g x V) (hb : Below V.heap.size V V') : Sum g x V' := by
  obtain ⟨a, m, c, h1, h2⟩ := h
  exact ⟨a, m, c, h1.kept (grown_of hb) (by simp), h2.below hb⟩
theorem Sum.drew {g x : Nat} {V : World} (h : Sum g x V) : Sum g x V.drew := h.below (Below.drew (Below.refl _ _))
set_option maxHeartbeats 1600000 in
theorem exceeding_any (n r : Nat) (w : World) (hn : n ≤ 500) (hr : r ≤ 2000) :
    Calls Try.prog 54 #[.int .i64 n, .int .i64 r] w fun e w' => ∃ L, e = .returned (.func (.func 80) #[] #[.pointer (some ⟨L, 0, none⟩)]) ∧ Sum L (r * 10000 ^ n) w' ∧ Below w.heap.size w w' := by
  have t1 : 10000 ^ n < Nt.top := by have := top_W (x := n) (y := 1) hn (by omega); omega
  have t2 : r * 10000 ^ n < Nt.top := top_W hn (by omega)
  have P0 : Hid (∀ w', Calls Try.prog 79 #[.int .i64 10000, .int .i64 n] w' (Num (10000 ^ n) w')) := fun w' => power_any 10000 n w' (by omega) (by omega) t1
  have P1 := Lib.hid (fun v w' (h : Dg w' v (10000 ^ n)) => product_any r _ v w' h (by omega) t1 t2)
  clear t1 t2
  go_enter Try.func54, Try.ntmps54
  go_wp2_with (first
    | (go_at_call 79; with_reducible refine (P0.out _).mono ?_; intro e w6 hq; obtain ⟨x6, k6, c6, rfl, D6, b6⟩ := Num.out hq)
    | (go_at_call 78; with_reducible refine (P1.out _ _ D6).mono ?_; intro e w7 hq; obtain ⟨x7, k7, c7, rfl, D7, b7⟩ := Num.out hq))
  go_ret
  have b8 := b6.trans (b7.mono b6.size)
  exact ⟨w7.heap.size, rfl, ⟨x7, k7, c7, Boxed.new _ _ _, D7.below ((Below.refl _ _).alloc (Nat.le_refl _) _)⟩, b8.alloc b8.size _⟩
theorem cmp_dig (v u : Value) (x y : Nat) (w : World) (h : Dg w v x) (h' : Dg w u y) (hx : x < Nt.top) (hy : y < Nt.top) :
    Calls Try.prog 36 #[v, u] w fun e w' => e = .returned (.tuple #[.int .i64 (Nt.ord x y), .int .i64 0]) ∧ Below w.heap.size w w' := by
  have := cmp3_any v u _ _ w h h'
  obtain ⟨e1, e2⟩ := Nt.cmp_ok (Nt.rg_yes hx) (Nt.rg_yes hy)
  rw [Nt.val_dig, Nt.val_dig] at e1
  rw [e1, e2] at this
  exact this.mono fun e w' ⟨h1, h2⟩ => ⟨h1, h2.bl⟩
theorem ord_gt (x y : Nat) : decide (0 < Nt.ord x y) = decide (y < x) := by
  unfold Nt.ord
  by_cases c : x < y
  · rw [if_pos c, decide_eq_false (show ¬ y < x by omega)]; rfl
  · rw [if_neg c]
    by_cases d : y < x
    · rw [if_pos d, decide_eq_true d]; rfl
    · rw [if_neg d, decide_eq_false d]; rfl
set_option maxRecDepth 100000 in
set_option maxHeartbeats 1600000 in
theorem exceeding1_any (v : Value) (L x y : Nat) (w : World) (hL : Sum L y w) (hv : Dg w v x) (hx : x < Nt.top) (hxx : 10000 * x < Nt.top) (hy : y < Nt.top) :
    Calls Try.prog 80 #[v, .pointer (some ⟨L, 0, none⟩)] w fun e w' => e = .returned (.bool (decide (y < 10000 * x))) ∧ Below w.heap.size w w' := by
  have P1 : Hid (∀ w' (h : Dg w' v x), Calls Try.prog 78 #[.int .i64 10000, v] w' (Num (10000 * x) w')) := fun w' h => product_any 10000 x v w' h (by omega) hx hxx
  have CM := Lib.hid (fun u u' w' (h : Dg w' u (10000 * x)) (h' : Dg w' u' y) => cmp_dig u u' _ _ w' h h' hxx hy)
  obtain ⟨a, m, c, hb, hd⟩ := hL
  have hc := hb.cell
  have HB := Lib.hid hb
  have HD := Lib.hid hd
  have HV := Lib.hid hv
  have O := Lib.hid (ord_gt (10000 * x) y)
  obtain ⟨o, ho⟩ : ∃ o, o = Nt.ord (10000 * x) y := ⟨_, rfl⟩
  rw [← ho] at CM O
  clear hb hd hv ho hx hxx hy
  go_enter Try.func80, Try.ntmps80
  go_wp2
  go_region_with (first
    | (go_at_call 78; (with_reducible refine (P1.out _ (by first | exact HV.out | exact Dg.drew HV.out)).mono ?_); intro e w5 hq; obtain ⟨x5, k5, c5, rfl, D5, b5⟩ := Num.out hq; have hc5 := kept_cell b5 (by simpa using hc); have HD5 := Dg.below (Dg.drew HD.out) b5)
    | (go_at_call 36; (with_reducible refine (CM.out _ _ _ (by repeat (first | (with_reducible exact D5) | (with_reducible refine Dg.drew ?_))) (by repeat (first | (with_reducible exact HD5) | (with_reducible refine Dg.drew ?_)))).mono ?_); rintro e w6 ⟨rfl, b6⟩))
  all_goals go_wp2
  all_goals go_ret
  all_goals exact ⟨ret_bool (by rw [← O.out]), chain5 b5 b6⟩
/-- The closures of both bounds. -/
structure Asks (n k L E Bn' Bk y : Nat) (V : World) : Prop where
  lim : Sum L y V
  fe : V.cell? ⟨E, 0, none⟩ = some (.func (.func 80) #[] #[.pointer (some ⟨L, 0, none⟩)])
  cn : V.cell? ⟨Bn', 0, none⟩ = some (.int .i64 n)
  ck : V.cell? ⟨Bk, 0, none⟩ = some (.int .i64 k)
theorem Asks.below {n k L E Bn' Bk y : Nat} {V V' : World} (h : Asks n k L E Bn' Bk y V) (hb : Below V.heap.size V V') : Asks n k L E Bn' Bk y V' :=
  ⟨h.lim.below hb, kept_cell hb h.fe, kept_cell hb h.cn, kept_cell hb h.ck⟩
set_option maxRecDepth 100000 in
set_option maxHeartbeats 1600000 in
theorem least1_any (n k p r L E Bn' Bk : Nat) (w : World) (hn : n ≤ 500) (hk : k ≤ n) (hp : p ≤ 10000) (hr : r ≤ 2000) (hA : Asks n k L E Bn' Bk (r * 10000 ^ n) w) :
    Calls Try.prog 56 #[.int .i64 p, .pointer (some ⟨E, 0, none⟩), .pointer (some ⟨Bn', 0, none⟩), .pointer (some ⟨Bk, 0, none⟩)] w fun e w' => e = .returned (.bool (Bn.ex n r (Bn.Up n k p))) ∧ Below w.heap.size w w' := by
  have t1 : Bn.Up n k p < Nt.top := by have := S_top (n := n) (k := n + 1 - k) (a := 10000 - p) (b := p) (y := 1) hn (by omega) (by omega); unfold Bn.Up Bn.W; omega
  have t2 : 10000 * Bn.Up n k p < Nt.top := S_top (n := n) (k := n + 1 - k) (a := 10000 - p) (b := p) hn (by omega) (by omega)
  have t3 : r * 10000 ^ n < Nt.top := top_W hn (by omega)
  have OM := Lib.hid (fun w' => orMore_any n k p w' hn hk hp)
  have EX := Lib.hid (fun v w' (h : Sum L (r * 10000 ^ n) w') (h' : Dg w' v (Bn.Up n k p)) => exceeding1_any v L _ _ w' h h' t1 t2 t3)
  have HA := Lib.hid hA
  obtain ⟨hl, hfe, hcn, hck⟩ := hA
  clear hl t1 t2 t3
  go_enter Try.func56, Try.ntmps56
  go_wp2
  go_region_with (first
    | (go_at_call 57; (with_reducible refine (OM.out _).mono ?_); intro e w5 hq; obtain ⟨x5, k5, c5, rfl, D5, b5⟩ := Num.out hq; have hc5 := kept_cell b5 (by simpa using hfe); have HL5 := Sum.below HA.out.lim (chain5 b5 (Below.refl _ _)))
    | (go_at_call 80; (with_reducible refine (EX.out _ _ (by repeat (first | (with_reducible exact HL5) | (with_reducible refine Sum.drew ?_))) (by repeat (first | (with_reducible exact D5) | (with_reducible refine Dg.drew ?_)))).mono ?_); rintro e w6 ⟨rfl, b6⟩))
  all_goals go_wp2
  all_goals go_ret
  all_goals exact ⟨rfl, chain5 b5 b6⟩
end Go.Proofs.Ytjfopggpohakkaa
