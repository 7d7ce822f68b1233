/- The library's functions on slices of ints that StatsRanks calls. -/
import Derived.Test.YtjfopggpohakkaaSs
import Derived.Test.YtjfopggpohakkaaRk
namespace Go.Proofs.Ytjfopggpohakkaa
open Go.RowKit Go.Shelf Go.Sort

theorem Sl.cells {w : World} {a : Option Addr} {n c : Nat} {zs : List Int} (h : Sl w (.slice a n c) zs) (h0 : 0 < n) : ∃ b off, a = some ⟨b, off, none⟩ ∧ n = zs.length ∧ ∀ j, j < zs.length → w.cell? ⟨b, off + j, none⟩ = some (.int .i64 (zs.getD j 0)) := by
  obtain ⟨a', c', e, h⟩ := h
  obtain ⟨rfl, hn, rfl⟩ := Value.slice.inj e
  rcases h with h | ⟨b, off, rfl, h⟩
  · rw [h] at hn; simp at hn; omega
  · exact ⟨b, off, rfl, hn, h⟩
theorem Sl.first {w : World} {a : Option Addr} {n c : Nat} {zs : List Int} (h : Sl w (.slice a n c) zs) (m : Nat) (hm : m ≤ n) : Sl w (.slice a m c) (zs.take m) := by
  obtain ⟨a', c', e, h⟩ := h
  obtain ⟨rfl, hn, rfl⟩ := Value.slice.inj e
  have el : (zs.take m).length = m := by rw [List.length_take]; omega
  refine ⟨a, c, by rw [el], ?_⟩
  rcases h with h | ⟨b, off, rfl, h⟩
  · left; rw [h, List.take_nil]
  · refine .inr ⟨b, off, rfl, fun j hj => ?_⟩
    rw [el] at hj
    rw [h j (by omega), List.getD_eq_getElem?_getD, List.getD_eq_getElem?_getD, List.getElem?_take_of_lt hj]
theorem contains_any (a : Option Addr) (n c : Nat) (zs : List Int) (x : Int) (w : World) (h : Sl w (.slice a n c) zs) (h0 : 0 < n) (hn : n ≤ 1000000) :
    Calls Try.prog 38 #[.slice a n c, .int .i64 x] w fun e w' => e = .returned (.bool (zs.contains x)) ∧ w' = w := by
  obtain ⟨b, off, rfl, e, hc⟩ := h.cells h0
  have := Try.slices_Contains_int b off n c zs x w (by omega) (by omega) hc
  rw [List.take_of_length_le (by omega)] at this; exact this
theorem clone_ints (a : Option Addr) (n c : Nat) (zs : List Int) (w : World) (h : Sl w (.slice a n c) zs) (h0 : 0 < n) (hn : n ≤ 1000000) :
    Calls Try.prog 39 #[.slice a n c] w fun e w' => ∃ g k, e = .returned (.slice (some ⟨g, 0, none⟩) n k) ∧ w'.ownsRow w.heap.size 3 1 (.slice (some ⟨g, 0, none⟩) n k) n (zs.map (Value.int .i64)) ∧ Below w.heap.size w w' := by
  obtain ⟨b, off, rfl, e, hc⟩ := h.cells h0
  have := Try.slices_Clone_int b off n c zs w (by omega) (by omega) hc
  rw [List.take_of_length_le (by omega)] at this
  refine this.mono ?_
  rintro e w' ⟨v', rfl, hr, _, hb⟩
  obtain ⟨j, rfl⟩ : ∃ j, n = j + 1 := ⟨n - 1, by omega⟩
  obtain ⟨g, k, rfl⟩ := ownsRow_succ hr
  exact ⟨g, k, rfl, hr, hb⟩
theorem reverse_any (B g n k : Nat) (zs : List Int) (w : World) (hz : n = zs.length) (hn : n ≤ 1000000) (hB : B ≤ w.heap.size) (h : w.ownsRow B 3 1 (.slice (some ⟨g, 0, none⟩) n k) n (zs.map (Value.int .i64))) :
    Calls Try.prog 40 #[.slice (some ⟨g, 0, none⟩) n k] w fun e w' => e = .returned (.tuple #[]) ∧ w'.ownsRow B 3 1 (.slice (some ⟨g, 0, none⟩) n k) n (zs.reverse.map (Value.int .i64)) ∧ Below B w w' := by
  subst hz
  rcases h.2 with ⟨he, _⟩ | ⟨gb, cap, cur, he, hbase, hgb, r1, r2, r3, r4⟩
  · cases he
  · obtain ⟨e1, _, rfl⟩ := Value.slice.inj he
    obtain rfl : g = gb := by cases e1; rfl
    have hH : Holds (Value.int .i64) w g 0 zs.toArray := holds_of_block_i hgb (by rw [Nat.mul_one] at r4; exact r4)
    refine (Try.slices_Reverse_int g 0 k zs w hH (by omega)).mono ?_
    rintro e w' ⟨rfl, nn, rfl⟩
    have ow := ownsRow_sorted_i (n := nn) (os := #[]) (ts := zs.reverse) (ss := zs) (List.length_reverse) hbase hgb (by omega) r2 r3
    rw [grow_empty] at ow
    refine ⟨rfl, ow, ?_⟩
    have gb := grownBy_sorted_i (w := w) (g := g) (n := nn) (os := #[]) zs.reverse.toArray
    rw [grow_empty] at gb
    exact (Below.refl B w).grown gb hB (fun j hj => by cases hj; exact hbase)
theorem own_cells {w : World} {B g n k : Nat} {zs : List Int} (hz : n = zs.length) (h : w.ownsRow B 3 1 (.slice (some ⟨g, 0, none⟩) n k) n (zs.map (Value.int .i64))) : Sl w (.slice (some ⟨g, 0, none⟩) n k) zs := by
  subst hz
  obtain ⟨a, c, e, hs, _⟩ := own_sl h
  exact hs
/-- The quantile and the counts. -/
theorem q_counts {zs : List Int} {q : Nat} (h0 : 0 < zs.length) (h1 : zs.length ≤ 10000) (hq : q ≤ 10000) :
    qE zs.length q = 0 ∧ Rk.lt (qV zs q) zs ≤ Rk.wt zs.length q - 1 ∧ Rk.wt zs.length q - 1 < Rk.le (qV zs q) zs ∧ qV zs q ∈ zs := by
  have e0 : qE zs.length q = 0 := by unfold qE; rw [if_neg (by omega), if_neg (by rw [sh_yes hq]; simp), if_neg (by omega)]
  have lw := Rk.wt_le h0 hq
  have wp : 1 ≤ Rk.wt zs.length q := Nat.le_max_left _ _
  have hl : Rk.wt zs.length q - 1 < (Rk.sl zs).length := by rw [Rk.sl_len]; omega
  have eV : qV zs q = (Rk.sl zs)[Rk.wt zs.length q - 1] := by
    unfold qV
    rw [if_pos e0, Int.toNat_natCast]
    show (Rk.sl zs).getD (Rk.wt zs.length q - 1) 0 = _
    rw [List.getD_eq_getElem?_getD, List.getElem?_eq_getElem hl]; rfl
  obtain ⟨c1, c2⟩ := Rk.at_counts (Rk.sl_sorted zs) hl
  rw [Rk.lt_sl] at c1
  rw [Rk.le_sl] at c2
  rw [eV]
  exact ⟨e0, c1, c2, Rk.sl_mem hl⟩
theorem q_is {zs : List Int} {q : Nat} {v : Int} (h0 : 0 < zs.length) (h1 : zs.length ≤ 10000) (hq : q ≤ 10000) (c1 : Rk.lt v zs ≤ Rk.wt zs.length q - 1) (c2 : Rk.wt zs.length q - 1 < Rk.le v zs) : qV zs q = v := by
  have e0 : qE zs.length q = 0 := (q_counts h0 h1 hq).1
  have lw := Rk.wt_le h0 hq
  have wp : 1 ≤ Rk.wt zs.length q := Nat.le_max_left _ _
  have hl : Rk.wt zs.length q - 1 < (Rk.sl zs).length := by rw [Rk.sl_len]; omega
  unfold qV
  rw [if_pos e0, Int.toNat_natCast]
  show (Rk.sl zs).getD (Rk.wt zs.length q - 1) 0 = _
  rw [List.getD_eq_getElem?_getD, List.getElem?_eq_getElem hl]
  exact Rk.at_of_counts (Rk.sl_sorted zs) hl (by rw [Rk.lt_sl]; exact c1) (by rw [Rk.le_sl]; exact c2)
theorem q_mono {zs : List Int} {p q : Nat} (h0 : 0 < zs.length) (h1 : zs.length ≤ 10000) (hq : q ≤ 10000) (h : p ≤ q) : qV zs p ≤ qV zs q := by
  obtain ⟨_, a1, a2, _⟩ := q_counts h0 h1 (Nat.le_trans h hq)
  obtain ⟨_, b1, b2, _⟩ := q_counts h0 h1 hq
  have m := Rk.wt_mono zs.length h
  refine Int.le_of_not_gt fun c => ?_
  have := Rk.le_mono zs c
  omega
theorem q_rev {zs : List Int} {q : Nat} (h0 : 0 < zs.length) (h1 : zs.length ≤ 10000) (hq : q ≤ 10000) : qV zs.reverse q = qV zs q := by
  obtain ⟨_, a1, a2, _⟩ := q_counts h0 h1 hq
  have e1 : Rk.lt (qV zs q) zs.reverse = Rk.lt (qV zs q) zs := (List.reverse_perm zs).countP_eq _
  have e2 : Rk.le (qV zs q) zs.reverse = Rk.le (qV zs q) zs := (List.reverse_perm zs).countP_eq _
  exact q_is (by rw [List.length_reverse]; exact h0) (by rw [List.length_reverse]; exact h1) hq (by rw [List.length_reverse, e1]; exact a1) (by rw [List.length_reverse, e2]; exact a2)
theorem q_two {zs : List Int} {q : Nat} (h0 : 0 < zs.length) (h1 : zs.length ≤ 5000) (hq : q ≤ 10000) : qV (zs ++ zs) q = qV zs q := by
  obtain ⟨_, a1, a2, _⟩ := q_counts h0 (by omega) hq
  obtain ⟨c1, c2⟩ := Rk.wt_counts a1 a2
  obtain ⟨d1, d2⟩ := Rk.wt_twice (n := zs.length) c1 (by omega) c2
  exact q_is (by rw [List.length_append]; omega) (by rw [List.length_append]; omega) hq (by rw [List.length_append, Rk.lt_app]; exact d1) (by rw [List.length_append, Rk.le_app]; exact d2)
end Go.Proofs.Ytjfopggpohakkaa
