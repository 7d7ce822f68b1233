/- NatWrong: its walk. -/
import Derived.Test.YtlmigbfpdbkkjaaDoorLo
import Derived.Test.YtlmigbfpdbkkjaaDoorTe
import Derived.Test.YtlmigbfpdbkkjaaDoorTc
import Derived.Test.YtlmigbfpdbkkjaaDoorCNRing
namespace Go.Proofs.YtlmigbfpdbkkjaaDoor
open Go.RowKit

theorem rg_zero (l : List Nat) : Nt.rg (l ++ [0]) = false := by
  unfold Nt.rg
  refine decide_eq_false fun h => h.2 ?_
  rw [List.getLast?_append]; rfl
/-- Slices in a block, none of them a number. -/
structure WrI (w wr : World) (blk : Nat) (vs : Nat → Value) (ls : Nat → List Nat) : Prop where
  cell : ∀ j, j < 2 → wr.cell? ⟨blk, j, none⟩ = some (vs j)
  lm : ∀ j, j < 2 → Lm wr (vs j) (ls j)
  no : ∀ j, j < 2 → Nt.rg (ls j) = false
  bel : Below w.heap.size w wr
theorem WrI.quiet {w wr w' : World} {blk : Nat} {vs : Nat → Value} {ls : Nat → List Nat} (h : WrI w wr blk vs ls) (b : Below wr.heap.size wr w') : WrI w w' blk vs ls :=
  ⟨fun j hj => (b.cell (World.block_lt_of_cell? _ _ (h.cell j hj))).trans (h.cell j hj), fun j hj => (h.lm j hj).below b, h.no, h.bel.trans (b.mono h.bel.size)⟩
/-- What is made of limbs that are no number, or not both. -/
theorem zero_of {w : World} {a : Option Addr} {n c : Nat} (h : Lm w (.slice a n c) []) : n = 0 := by obtain ⟨_, e, _⟩ := h.cap; exact e
theorem wr_start {w wr w5 : World} {g N k : Nat} {a5 : Option Addr} {c5 : Nat} {A L : List Nat} (t : TypeId) (hN : N = L.length) (h1 : Rw wr g L) (hb : Below w.heap.size w wr) (b5 : Below wr.heap.size wr w5) (h5 : Lm w5 (.slice a5 (k + 1) c5) (A ++ [0])) (hL : 1024 < L.length) :
    WrI w (w5.alloc (.cells #[.slice a5 (k + 1) c5, .slice (some ⟨g, 0, none⟩) N N] t)) w5.heap.size (fun i => if i = 0 then .slice a5 (k + 1) c5 else .slice (some ⟨g, 0, none⟩) N N) (fun i => if i = 0 then A ++ [0] else L) := by
  have hb5 := hb.trans (b5.mono hb.size)
  have ba : Below w5.heap.size w5 (w5.alloc (.cells #[.slice a5 (k + 1) c5, .slice (some ⟨g, 0, none⟩) N N] t)) := (Below.refl _ _).alloc (Nat.le_refl _) _
  have l2 : Lm w5 (.slice (some ⟨g, 0, none⟩) N N) L := by rw [hN]; exact (h1.quiet b5).lm (Nat.le_refl _)
  refine ⟨fun j hj => ?_, fun j hj => ?_, fun j hj => ?_, hb5.trans (ba.mono hb5.size)⟩
  · have : j = 0 ∨ j = 1 := by omega
    rcases this with rfl | rfl
    · exact cell_at w5 _ _ 0 _ _ rfl rfl
    · exact cell_at w5 _ _ 1 _ _ rfl rfl
  · have : j = 0 ∨ j = 1 := by omega
    rcases this with rfl | rfl
    · exact h5.below ba
    · exact l2.below ba
  · have : j = 0 ∨ j = 1 := by omega
    rcases this with rfl | rfl
    · exact rg_zero A
    · exact rg_no_len hL
/-- Pairs of slices in a block, not both of them numbers. -/
structure PrI (w wr : World) (blk b3 : Nat) (vs : Nat → Value) (ls : Nat → List Nat) (v : Value) (l : List Nat) (p q : Nat → Value) (lp lq : Nat → List Nat) : Prop where
  out : WrI w wr blk vs ls
  lv : Lm wr v l
  c0 : ∀ j, j < 2 → wr.cell? ⟨b3, 2 * j, none⟩ = some (p j)
  c1 : ∀ j, j < 2 → wr.cell? ⟨b3, 2 * j + 1, none⟩ = some (q j)
  mp : ∀ j, j < 2 → Lm wr (p j) (lp j)
  mq : ∀ j, j < 2 → Lm wr (q j) (lq j)
  no : ∀ j, j < 2 → ¬ (Nt.rg (lp j) = true ∧ Nt.rg (lq j) = true)
theorem PrI.quiet {w wr w' : World} {blk b3 : Nat} {vs : Nat → Value} {ls : Nat → List Nat} {v : Value} {l : List Nat} {p q : Nat → Value} {lp lq : Nat → List Nat} (h : PrI w wr blk b3 vs ls v l p q lp lq) (b : Below wr.heap.size wr w') : PrI w w' blk b3 vs ls v l p q lp lq :=
  ⟨h.out.quiet b, h.lv.below b, fun j hj => (b.cell (World.block_lt_of_cell? _ _ (h.c0 j hj))).trans (h.c0 j hj), fun j hj => (b.cell (World.block_lt_of_cell? _ _ (h.c1 j hj))).trans (h.c1 j hj), fun j hj => (h.mp j hj).below b, fun j hj => (h.mq j hj).below b, h.no⟩
theorem one_lm (w : World) (t : TypeId) : Lm (w.alloc (.cells #[.int .u32 1] t)) (.slice (some ⟨w.heap.size, 0, none⟩) 1 1) [1] := by
  refine ⟨_, 1, rfl, Nt.fit_one (by decide), (fun e => by cases e), Nat.le_refl _, Or.inr ⟨w.heap.size, 0, rfl, fun j hj => ?_⟩⟩
  have : j = 0 := by simp at hj; exact hj
  subst this
  exact cell_at w _ _ 0 _ _ rfl rfl
theorem pr_start {w wr : World} {blk : Nat} {vs : Nat → Value} {ls : Nat → List Nat} {v : Value} {l : List Nat} (t1 t2 t3 : TypeId) (h : WrI w wr blk vs ls) (hv : Lm wr v l) (hr : Nt.rg l = false) :
    PrI w (((wr.alloc (.cells #[.int .u32 1] t1)).alloc (.cells #[.int .u32 1] t2)).alloc (.cells #[v, .slice (some ⟨wr.heap.size, 0, none⟩) 1 1, .slice (some ⟨wr.heap.size + 1, 0, none⟩) 1 1, v] t3)) blk (wr.heap.size + 1 + 1) vs ls v l
      (fun j => if j = 0 then v else .slice (some ⟨wr.heap.size + 1, 0, none⟩) 1 1) (fun j => if j = 0 then .slice (some ⟨wr.heap.size, 0, none⟩) 1 1 else v) (fun j => if j = 0 then l else [1]) (fun j => if j = 0 then [1] else l) := by
  obtain ⟨w1, h1⟩ : ∃ w1, w1 = wr.alloc (.cells #[.int .u32 1] t1) := ⟨_, rfl⟩
  obtain ⟨w2, h2⟩ : ∃ w2, w2 = w1.alloc (.cells #[.int .u32 1] t2) := ⟨_, rfl⟩
  have s1 : w1.heap.size = wr.heap.size + 1 := by rw [h1]; simp
  have s2 : w2.heap.size = wr.heap.size + 1 + 1 := by rw [h2]; simp [s1]
  obtain ⟨cs, hcs⟩ : ∃ cs : Array Value, cs = #[v, .slice (some ⟨wr.heap.size, 0, none⟩) 1 1, .slice (some ⟨wr.heap.size + 1, 0, none⟩) 1 1, v] := ⟨_, rfl⟩
  obtain ⟨w3, h3⟩ : ∃ w3, w3 = w2.alloc (.cells cs t3) := ⟨_, rfl⟩
  rw [← h1, ← h2, ← hcs, ← h3, ← s2]
  have b1 : Below wr.heap.size wr w1 := by rw [h1]; exact (Below.refl _ _).alloc (Nat.le_refl _) _
  have b2 : Below w1.heap.size w1 w2 := by rw [h2]; exact (Below.refl _ _).alloc (Nat.le_refl _) _
  have b3 : Below w2.heap.size w2 w3 := by rw [h3]; exact (Below.refl _ _).alloc (Nat.le_refl _) _
  have b13 : Below w1.heap.size w1 w3 := b2.trans (b3.mono b2.size)
  have b03 : Below wr.heap.size wr w3 := b1.trans (b13.mono b1.size)
  have o1 : Lm w3 (.slice (some ⟨wr.heap.size, 0, none⟩) 1 1) [1] := by
    have := one_lm wr t1
    rw [← h1] at this
    exact this.below b13
  have o2 : Lm w3 (.slice (some ⟨wr.heap.size + 1, 0, none⟩) 1 1) [1] := by
    have := one_lm w1 t2
    rw [← h2, s1] at this
    exact this.below b3
  have hv3 := hv.below b03
  have no : ¬ (Nt.rg l = true) := by rw [hr]; decide
  have two : ∀ {j : Nat}, j < 2 → j = 0 ∨ j = 1 := by omega
  refine ⟨h.quiet b03, hv3, fun j hj => ?_, fun j hj => ?_, fun j hj => ?_, fun j hj => ?_, fun j hj => ?_⟩
  · rcases two hj with rfl | rfl
    · rw [h3]; exact cell_at w2 _ _ 0 _ _ rfl (by rw [hcs]; rfl)
    · rw [h3]; exact cell_at w2 _ _ 2 _ _ rfl (by rw [hcs]; rfl)
  · rcases two hj with rfl | rfl
    · rw [h3]; exact cell_at w2 _ _ 1 _ _ rfl (by rw [hcs]; rfl)
    · rw [h3]; exact cell_at w2 _ _ 3 _ _ rfl (by rw [hcs]; rfl)
  · rcases two hj with rfl | rfl
    · exact hv3
    · exact o2
  · rcases two hj with rfl | rfl
    · exact o1
    · exact hv3
  · rcases two hj with rfl | rfl
    · exact fun x => no x.1
    · exact fun x => no x.2
theorem chain {a b c : World} (h : Below a.heap.size a b) (k : Below b.heap.size b c) : Below a.heap.size a c := h.trans (k.mono h.size)
/-- An array variable that holds two slices. -/
theorem box_facts {wr : World} {u v : Value} {l m : List Nat} (t : TypeId) (h : Lm wr u l) (h' : Lm wr v m) (wx : World) (b : Below (wr.alloc (.cells #[u, v] t)).heap.size (wr.alloc (.cells #[u, v] t)) wx) :
    wx.cell? ⟨wr.heap.size, 0, none⟩ = some u ∧ wx.cell? ⟨wr.heap.size, 1, none⟩ = some v ∧ Lm wx u l ∧ Lm wx v m := by
  have ba : Below wr.heap.size wr (wr.alloc (.cells #[u, v] t)) := (Below.refl _ _).alloc (Nat.le_refl _) _
  have c0 := cell_at wr #[u, v] t 0 u _ rfl rfl
  have c1 := cell_at wr #[u, v] t 1 v _ rfl rfl
  exact ⟨(b.cell (World.block_lt_of_cell? _ _ c0)).trans c0, (b.cell (World.block_lt_of_cell? _ _ c1)).trans c1, (h.below ba).below b, (h'.below ba).below b⟩
theorem box_below (wr : World) (o : Obj) (wx : World) (b : Below (wr.alloc o).heap.size (wr.alloc o) wx) : Below wr.heap.size wr wx :=
  chain ((Below.refl _ _).alloc (Nat.le_refl _) o) b
theorem uint_bad (v : Value) (l : List Nat) (w : World) (h : Lm w v l) (r : Nt.rg l = false) : Calls Tryd.prog 24 #[v] w fun e w' => e = .returned (.tuple #[.int .u64 0, .bool false]) ∧ w = w' := by
  have := uint3_any v l w h
  rw [show Nt.wordV l = 0 by unfold Nt.wordV; rw [if_neg (fun x => by rw [r] at x; cases x.1)], show Nt.wordO l = false from decide_eq_false (fun x => by rw [r] at x; cases x.1)] at this
  exact this
theorem cmp_bad (v u : Value) (l m : List Nat) (w : World) (h : Lm w v l) (h' : Lm w u m) (r : ¬ (Nt.rg l = true ∧ Nt.rg m = true)) : Calls Tryd.prog 23 #[v, u] w fun e w' => e = .returned (.tuple #[.int .i64 0, .int .i64 2]) ∧ Hid (Below w.heap.size w w') := by
  have := cmp3_any v u l m w h h'
  rw [show Nt.cmpV l m = 0 by unfold Nt.cmpV; rw [if_neg r], show Nt.cmpE l m = 2 by unfold Nt.cmpE; rw [if_neg r]] at this
  exact this.mono fun _ _ ⟨h1, h2⟩ => ⟨h1, h2.bl⟩
theorem add_bad (v u : Value) (l m : List Nat) (w : World) (h : Lm w v l) (h' : Lm w u m) (r : ¬ (Nt.rg l = true ∧ Nt.rg m = true)) : Calls Tryd.prog 17 #[v, u] w fun e w' => ∃ a c, e = .returned (.tuple #[.slice a 0 c, .int .i64 2]) ∧ Hid (Below w.heap.size w w') := by
  have := add3_any v u l m w h h'
  rw [add_no r] at this
  refine this.mono ?_
  rintro e w' ⟨a, n, c, rfl, hl, b⟩
  obtain rfl := zero_of hl
  exact ⟨a, c, rfl, b⟩
theorem sub_bad (v u : Value) (l m : List Nat) (w : World) (h : Lm w v l) (h' : Lm w u m) (r : ¬ (Nt.rg l = true ∧ Nt.rg m = true)) : Calls Tryd.prog 21 #[v, u] w fun e w' => ∃ a c, e = .returned (.tuple #[.slice a 0 c, .int .i64 2]) ∧ Hid (Below w.heap.size w w') := by
  have := sub3_any v u l m w h h'
  rw [sub_no (fun x => r ⟨x.1, x.2.1⟩)] at this
  refine this.mono ?_
  rintro e w' ⟨a, n, c, rfl, hl, b⟩
  obtain rfl := zero_of hl
  exact ⟨a, c, rfl, b⟩
theorem mul_bad (v u : Value) (l m : List Nat) (w : World) (h : Lm w v l) (h' : Lm w u m) (r : ¬ (Nt.rg l = true ∧ Nt.rg m = true)) : Calls Tryd.prog 16 #[v, u] w fun e w' => ∃ a c, e = .returned (.tuple #[.slice a 0 c, .int .i64 2]) ∧ Hid (Below w.heap.size w w') := by
  have := mul3_any v u l m w h h'
  rw [mul_no r] at this
  refine this.mono ?_
  rintro e w' ⟨a, n, c, rfl, hl, b⟩
  obtain rfl := zero_of hl
  exact ⟨a, c, rfl, b⟩
theorem div_bad (v u : Value) (l m : List Nat) (w : World) (h : Lm w v l) (h' : Lm w u m) (r : ¬ (Nt.rg l = true ∧ Nt.rg m = true)) : Calls Tryd.prog 15 #[v, u] w fun e w' => ∃ a c a' c', e = .returned (.tuple #[.slice a 0 c, .slice a' 0 c', .int .i64 2]) ∧ Hid (Below w.heap.size w w') := by
  obtain ⟨e1, e2, e3⟩ := Nt.div_no (l := l) (m := m) (fun x => r ⟨x.1, x.2.1⟩)
  refine (div3_any v u l m w h h').mono ?_
  rintro e w' ⟨a, n, c, a', n', c', rfl, hl, hl', b⟩
  rw [e1] at hl
  rw [e2] at hl'
  rw [e3]
  obtain rfl := zero_of hl
  obtain rfl := zero_of hl'
  exact ⟨a, c, a', c', rfl, b⟩
theorem pow_bad (v : Value) (l : List Nat) (n : Int) (w : World) (hn : n < 9223372036854775808) (h : Lm w v l) (r : ¬ (Nt.rg l = true ∧ 0 ≤ n)) : Calls Tryd.prog 27 #[v, .int .i64 n] w fun e w' => ∃ a c, e = .returned (.tuple #[.slice a 0 c, .int .i64 2]) ∧ Hid (Below w.heap.size w w') := by
  have := pow3_any v l n w h hn
  rw [show Nt.powR l n = ([], 2) by unfold Nt.powR; rw [if_neg r]] at this
  refine this.mono ?_
  rintro e w' ⟨a, n, c, rfl, hl, b⟩
  obtain rfl := zero_of hl
  exact ⟨a, c, rfl, b⟩
theorem text_bad (v : Value) (l : List Nat) (w : World) (h : Lm w v l) (r : Nt.rg l = false) : Calls Tryd.prog 25 #[v] w fun e w' => e = .returned (.tuple #[.string ⟨#[]⟩, .int .i64 2]) ∧ Hid (Below w.heap.size w w') := by
  have := text3_any v l w h
  rw [show Nt.txtR l = ([], 2) by unfold Nt.txtR; rw [r]; rfl] at this
  exact this
set_option maxRecDepth 100000 in
set_option maxHeartbeats 6400000 in
theorem wrong_any (va : Value) (l : List Nat) (M : Nat) (w : World) (h : Lm w va l) (hl : l.length ≤ 9223372036854775807) (hM : M < 65536) :
    Calls Tryd.prog 11 #[va, .int .u16 (M : Nat)] w fun e w' => e = .returned (.bool true) ∧ Below w.heap.size w w' := by
  obtain ⟨N, hN⟩ : ∃ N, N = 1025 + M % 100 := ⟨_, rfl⟩
  have NI : (1025 : Int) + (M : Int) % 100 = (N : Int) := by omega
  have NB : N ≤ 1124 := by omega
  have NG : 1025 ≤ N := by omega
  obtain ⟨ra, fa, ka⟩ := Nt.num_ok h.fit 100 (by omega)
  obtain ⟨A, hA⟩ : ∃ A, A = Nt.num l 100 := ⟨_, rfl⟩
  rw [← hA] at ra fa ka
  have NU : Hid (∀ w', Below w.heap.size w w' → Calls Tryd.prog 14 #[va, .int .i64 100] w' fun e w'' => ∃ a c, e = .returned (.slice a A.length c) ∧ Hid (Rl w'.heap.size w'' a A.length c A) ∧ Hid (Below w'.heap.size w' w'')) := by
    intro w' b
    have := number_own va l 100 w' (h.below b) (by omega) hl
    rw [← hA] at this
    refine this.mono ?_
    rintro e w'' ⟨a, n, c, rfl, hr, hb⟩
    obtain rfl := hr.1
    exact ⟨a, c, rfl, hr, hb⟩
  obtain ⟨k, hk⟩ : ∃ k, k = A.length := ⟨_, rfl⟩
  rw [← hk] at NU ka
  obtain ⟨i0, hi, hz0, hz1, hz2⟩ := info_parts info_limb
  have BB4 : i0.bytes * N ≤ 281474976710656 := by rw [hz2]; omega
  have ML : k + 1 ≤ maxLen := by unfold maxLen; omega
  have BY : (k + 1) * 4 ≤ 140737488355328 := by omega
  have LS := Lib.hid limb_src
  have AW := Lib.hid (awake3_any w)
  have AB : Hid (∀ (wr w4 w5 : World) (a : Option Addr) (c : Nat) (o : Obj), Rl wr.heap.size w4 a k c A → Below wr.heap.size wr w4 → (w4.alloc o).grownBy w5 (Value.slice a k c).ownBlock → Below wr.heap.size wr w5) := by
    intro wr w4 w5 a c o h b g
    have b' := b.alloc b.size o
    exact b'.grown g b'.size (fun j hj => (h.own.lt j hj).1)
  have ZB : Hid (∀ (wr w4 : World) (o : Obj), Below wr.heap.size wr w4 → wr.heap.size ≤ (w4.alloc o).heap.size) := fun wr w4 o b => (b.alloc b.size o).size
  have OK4 : Hid (∀ (wr w4 : World) (a : Option Addr) (c : Nat) (o : Obj), Rl wr.heap.size w4 a k c A → (w4.alloc o).ownsRow wr.heap.size 48 1 (.slice a k c) k (cv A)) := fun wr w4 a c o h => own_keep h.own ((Below.refl _ _).alloc (Nat.le_refl _) o)
  have MD : Hid (∀ w1 w2 : World, Below w.heap.size w w1 → w2.ownsRow w1.heap.size 48 1 (.slice (some ⟨w1.heap.size, 0, none⟩) N N) N (madeCells (Value.int .u32 0).cells (N * 1)).toList → w1.grownBy w2 none → Rw w2 w1.heap.size (List.replicate N 0) ∧ Below w.heap.size w w2) := by
    intro w1 w2 b ho hg
    exact ⟨(made_rf ho).rw, b.grown hg b.size (fun k hk => by cases hk)⟩
  have VR : Hid (∀ (wr w5 : World) (v5 : Value), w5.ownsRow wr.heap.size 48 1 v5 (k + 1) (cv A ++ cv [0]) → ∃ a5 c5, v5 = .slice a5 (k + 1) c5 ∧ Hid (Lm w5 (.slice a5 (k + 1) c5) (A ++ [0]))) := by
    intro wr w5 v5 ho
    rw [← cv_app] at ho
    obtain ⟨a5, c5, rfl, hR⟩ := own_rl (lc := A ++ [0]) (by rw [List.length_append, hk]; rfl) (Nt.fit_app fa (Nt.fit_one Nt.B_pos)) ho
    exact ⟨a5, c5, rfl, hR.lm⟩
  have HK := Lib.hid hk
  have HF := Lib.hid fa
  have RA := Lib.hid ra
  have H := Lib.hid h
  clear h hl hN hk hA ra fa
  go_enter Tryd.func11, Tryd.ntmps11
  go_wp2_with (first
    | (go_at_call 12; with_reducible refine AW.out.mono ?_; rintro e w1 ⟨rfl, b1⟩; have B1 := Lib.hid b1; clear b1)
    | (refine wpList_make_full _ rfl _ _ 22 rfl w1.heap.size 48 i0 (.int .u32 0) 1 Tryd.underlying22 hi hz0 hz1 .i64 .i64 _ _ N rfl rfl (by omega) (by omega) BB4 (by unfold maxLen; omega) (Nat.le_refl _) ?_; intro w2 hown hgrow; have M2 := Lib.hid (MD.out w1 w2 B1.out hown hgrow); clear hown hgrow))
  obtain ⟨g, hg⟩ : ∃ g, g = w1.heap.size := ⟨_, rfl⟩
  have GB : Hid (w.heap.size ≤ g) := by show _ ≤ _; rw [hg]; exact B1.out.size
  rw [← hg] at M2 ⊢
  clear hg
  go_loopw [39] (fun i wr => ∃ (j : Nat) (L : List Nat), j ≤ N ∧ i = .int .i64 j ∧ L.length = N ∧ Hid (Rw wr g L ∧ Below w.heap.size w wr)) (fun i _ => N + 1 - (intOf i).toNat)
  case atStart => exact ⟨0, _, Nat.zero_le _, rfl, List.length_replicate, M2⟩
  case round =>
    obtain ⟨j, L, hj, rfl, hL, J⟩ := hrel
    clear M2
    by_cases hlt : j < N
    · have C1 := J.out.1.cell (j := j) (by omega)
      have F1 := J.out.1.free j
      obtain ⟨b0, hb0⟩ : ∃ b0 : Int, b0 = (L.getD j 0 : Nat) := ⟨_, rfl⟩
      rw [← hb0] at C1
      have NX : Hid (Rw (wr.setCell ⟨g, j, none⟩ (.int .u32 1)) g (L.set j 1) ∧ Below w.heap.size w (wr.setCell ⟨g, j, none⟩ (.int .u32 1))) :=
        ⟨J.out.1.put j 1 (by decide), Sv.below J.out.2 (Sv.set wr ⟨g, j, none⟩ _) GB.out J.out.2.size⟩
      clear hb0
      go_wp2
      go_roundw
      case rel => exact ⟨j + 1, _, by omega, by go_num, by rw [List.length_set]; exact hL, NX⟩
      case measure => simp [intOf]; omega
    · have ej : j = N := by omega
      subst ej
      go_wp2_with (first
        | (go_at_call 14; with_reducible refine (NU.out wr J.out.2).mono ?_; rintro e w4 ⟨a4, c4, rfl, R4, B4⟩)
        | (at_builtin; refine wpList_append_own _ rfl _ _ 22 rfl wr.heap.size 48 i0 (.int .u32 0) 1 4 Tryd.underlying22 hi hz0 hz1 hz2 rfl (by decide) _ k (cv A) rfl (OK4.out wr w4 a4 c4 _ R4.out) ⟨w4.heap.size, 0, none⟩ 1 1 (cv [0]) rfl rfl (LS.out w4 0) (cv_one [0]) ML BY (ZB.out wr w4 _ B4.out) ?_; intro v5 w5 hown hgrow _; have B5 := Lib.hid (AB.out wr w4 w5 a4 c4 _ R4.out B4.out hgrow); obtain ⟨a5, c5, rfl, L5⟩ := VR.out wr w5 v5 hown; clear hown hgrow))
      have K0 := Lib.hid (wr_start (A := A) 22 hL.symm J.out.1 J.out.2 B5.out L5.out (by rw [hL]; omega))
      obtain ⟨blk, hblk⟩ : ∃ blk, blk = w5.heap.size := ⟨_, rfl⟩
      obtain ⟨vs, hvs⟩ : ∃ vs : Nat → Value, vs = fun i => if i = 0 then .slice a5 (k + 1) c5 else .slice (some ⟨g, 0, none⟩) j j := ⟨_, rfl⟩
      obtain ⟨ls, hls⟩ : ∃ ls : Nat → List Nat, ls = fun i => if i = 0 then A ++ [0] else L := ⟨_, rfl⟩
      rw [← hvs, ← hls, ← hblk] at K0
      rw [← hblk]
      clear hvs hls hblk
      go_loopw [53] (fun iv wr => ∃ i : Nat, i ≤ 2 ∧ iv = .int .i64 i ∧ Hid (WrI w wr blk vs ls)) (fun iv _ => 3 - (intOf iv).toNat)
      case atStart => exact ⟨0, by decide, rfl, K0⟩
      case round =>
        clear K0 J B5 L5 B4 R4
        obtain ⟨i, hi2, rfl, K⟩ := hrel
        by_cases hlt2 : i < 2
        · obtain ⟨av, cw, e, _⟩ := K.out.lm i hlt2
          have C1 := K.out.cell i hlt2
          obtain ⟨nv, hnv⟩ : ∃ nv, nv = (ls i).length := ⟨_, rfl⟩
          rw [← hnv] at e
          have LV := Lib.hid (K.out.lm i hlt2)
          have NV := Lib.hid (K.out.no i hlt2)
          rw [e] at C1 LV
          have UB := Lib.hid (uint_bad _ _ wr LV.out NV.out)
          have RB := Lib.hid (right_b3 _ (ls i) false wr LV.out NV.out)
          clear hnv e
          go_wp2_with (first
            | (go_at_call 24; with_reducible refine UB.out.mono ?_; rintro e w6 ⟨rfl, rfl⟩)
            | (go_at_call 18; with_reducible refine RB.out.mono ?_; rintro e w6 ⟨rfl, rfl⟩))
          have Q0 := Lib.hid (pr_start 48 48 51 K.out LV.out NV.out)
          obtain ⟨b3, hb3⟩ : ∃ b3, b3 = wr.heap.size + 1 + 1 := ⟨_, rfl⟩
          obtain ⟨w7, hw7⟩ : ∃ w7, w7 = ((wr.alloc (.cells #[.int .u32 1] 48)).alloc (.cells #[.int .u32 1] 48)).alloc (.cells #[.slice av nv cw, .slice (some ⟨wr.heap.size, 0, none⟩) 1 1, .slice (some ⟨wr.heap.size + 1, 0, none⟩) 1 1, .slice av nv cw] 51) := ⟨_, rfl⟩
          rw [← hb3, ← hw7] at Q0
          rw [← hb3, ← hw7]
          clear hb3 hw7
          revert Q0
          generalize (fun j => if j = 0 then Value.slice av nv cw else .slice (some ⟨wr.heap.size + 1, 0, none⟩) 1 1) = p
          generalize (fun j => if j = 0 then Value.slice (some ⟨wr.heap.size, 0, none⟩) 1 1 else .slice av nv cw) = q
          generalize (fun j : Nat => if j = 0 then ls i else [1]) = lp
          generalize (fun j : Nat => if j = 0 then [1] else ls i) = lq
          intro Q0
          go_loopw [75] (fun iv wx => ∃ j : Nat, j ≤ 2 ∧ iv = .int .i64 j ∧ Hid (PrI w wx blk b3 vs ls (.slice av nv cw) (ls i) p q lp lq)) (fun iv _ => 3 - (intOf iv).toNat)
          case atStart => exact ⟨0, by decide, rfl, Q0⟩
          case round =>
            clear Q0 K UB RB LV C1
            obtain ⟨j, hj2, rfl, Q⟩ := hrel
            by_cases hlt3 : j < 2
            · obtain ⟨pa, pc, pe, _⟩ := Q.out.mp j hlt3
              obtain ⟨qa, qc, qe, _⟩ := Q.out.mq j hlt3
              have D0 := Q.out.c0 j hlt3
              have D1 := Q.out.c1 j hlt3
              have MP := Lib.hid (Q.out.mp j hlt3)
              have MQ := Lib.hid (Q.out.mq j hlt3)
              have NO := Lib.hid (Q.out.no j hlt3)
              rw [pe] at D0 MP
              rw [qe] at D1 MQ
              obtain ⟨pn, hpn⟩ : ∃ pn, pn = (lp j).length := ⟨_, rfl⟩
              obtain ⟨qn, hqn⟩ : ∃ qn, qn = (lq j).length := ⟨_, rfl⟩
              rw [← hpn] at D0 MP
              rw [← hqn] at D1 MQ
              clear hpn hqn pe qe
              have BX := Lib.hid (box_facts 51 MP.out MQ.out)
              have CM := Lib.hid (fun wx b => (cmp_bad (.slice pa pn pc) (.slice qa qn qc) (lp j) (lq j) wx (BX.out wx b).2.2.1 (BX.out wx b).2.2.2 NO.out))
              have CA := Lib.hid (fun wx b => (add_bad (.slice pa pn pc) (.slice qa qn qc) (lp j) (lq j) wx (BX.out wx b).2.2.1 (BX.out wx b).2.2.2 NO.out))
              have CS := Lib.hid (fun wx b => (sub_bad (.slice pa pn pc) (.slice qa qn qc) (lp j) (lq j) wx (BX.out wx b).2.2.1 (BX.out wx b).2.2.2 NO.out))
              have CU := Lib.hid (fun wx b => (mul_bad (.slice pa pn pc) (.slice qa qn qc) (lp j) (lq j) wx (BX.out wx b).2.2.1 (BX.out wx b).2.2.2 NO.out))
              have CD := Lib.hid (fun wx b => (div_bad (.slice pa pn pc) (.slice qa qn qc) (lp j) (lq j) wx (BX.out wx b).2.2.1 (BX.out wx b).2.2.2 NO.out))
              have AL := Lib.hid (box_below wr (.cells #[.slice pa pn pc, .slice qa qn qc] 51))
              have : j = 0 ∨ j = 1 := by omega
              rcases this with rfl | rfl
              all_goals
                go_wp2_with (first
                  | (go_at_call 23; with_reducible refine (CM.out _ (Below.refl _ _)).mono ?_; rintro e x1 ⟨rfl, g1⟩; obtain ⟨k1, m1, _, _⟩ := BX.out x1 g1.out)
                  | (go_at_call 17; with_reducible refine (CA.out x1 g1.out).mono ?_; rintro e x2 ⟨aa, ca, rfl, d2⟩; have g2 := Lib.hid (chain g1.out d2.out); obtain ⟨k2, m2, _, _⟩ := BX.out x2 g2.out)
                  | (go_at_call 21; with_reducible refine (CS.out x2 g2.out).mono ?_; rintro e x3 ⟨ab, cb, rfl, d3⟩; have g3 := Lib.hid (chain g2.out d3.out); obtain ⟨k3, m3, _, _⟩ := BX.out x3 g3.out)
                  | (go_at_call 16; with_reducible refine (CU.out x3 g3.out).mono ?_; rintro e x4 ⟨ac, cc, rfl, d4⟩; have g4 := Lib.hid (chain g3.out d4.out); obtain ⟨k4, m4, _, _⟩ := BX.out x4 g4.out)
                  | (go_at_call 15; with_reducible refine (CD.out x4 g4.out).mono ?_; rintro e x5 ⟨ae, ce, af, cf, rfl, d5⟩; have g5 := Lib.hid (chain g4.out d5.out)))
                go_roundw
                case rel => first | exact ⟨1, by decide, rfl, Q.out.quiet (AL.out x5 g5.out)⟩ | exact ⟨2, by decide, rfl, Q.out.quiet (AL.out x5 g5.out)⟩
                case measure => simp [intOf]
            · have ej2 : j = 2 := by omega
              subst ej2
              have PO := Lib.hid (pow_bad _ _ 0 wr (by decide) Q.out.lv (fun x => by rw [NV.out] at x; cases x.1))
              have TX : Hid (∀ wx, Below wr.heap.size wr wx → Calls Tryd.prog 25 #[.slice av nv cw] wx fun e w' => e = .returned (.tuple #[.string ⟨#[]⟩, .int .i64 2]) ∧ Hid (Below wx.heap.size wx w')) := fun wx b => text_bad _ _ wx (Q.out.lv.below b) NV.out
              go_wp2_with (first
                | (go_at_call 27; with_reducible refine PO.out.mono ?_; rintro e x1 ⟨aa, ca, rfl, g1⟩)
                | (go_at_call 25; with_reducible refine (TX.out x1 g1.out).mono ?_; rintro e x2 ⟨rfl, d2⟩))
              go_roundw
              case rel => exact ⟨i + 1, by omega, by go_num, Q.out.out.quiet (chain g1.out d2.out)⟩
              case measure => simp [intOf]; omega
        · have ei2 : i = 2 := by omega
          subst ei2
          have PN : Hid (∀ wx a c, Rl wr.heap.size wx a k c A → Calls Tryd.prog 27 #[.slice a k c, .int .i64 (-1 - (M : Int))] wx fun e w' => ∃ a c, e = .returned (.tuple #[.slice a 0 c, .int .i64 2]) ∧ Hid (Below wx.heap.size wx w')) := fun wx a c hr => pow_bad _ A _ wx (by omega) hr.lm (fun x => by have := x.2; omega)
          have KB := Lib.hid K.out.bel
          go_wp2_with (first
            | (go_at_call 14; with_reducible refine (NU.out wr KB.out).mono ?_; rintro e x1 ⟨a6, c6, rfl, R6, B6⟩)
            | (go_at_call 27; with_reducible refine (PN.out x1 a6 c6 R6.out).mono ?_; rintro e x2 ⟨a7, c7, rfl, B7⟩))
          go_ret
          exact ⟨rfl, KB.out.trans ((chain B6.out B7.out).mono KB.out.size)⟩
end Go.Proofs.YtlmigbfpdbkkjaaDoor
