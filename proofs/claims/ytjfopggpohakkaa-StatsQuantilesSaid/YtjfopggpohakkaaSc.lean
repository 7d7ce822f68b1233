/- Contracts of the sums of terms: orFewer, orMore. -/
import Derived.Test.YtjfopggpohakkaaSb
namespace Go.Proofs.Ytjfopggpohakkaa
open Go.RowKit Go.Shelf
attribute [local go_sem] Oper.semAt_some

theorem Dg.own {β : Type} (v : Value) (x : Nat) : Own (fun (_ : β) W => Dg W v x) := by
  rintro s A B row ⟨a, c, rfl, hf, ha, hc, h⟩ hg hr
  refine ⟨a, c, rfl, hf, ha, hc, ?_⟩
  rcases h with h | ⟨b, off, rfl, h⟩
  · exact .inl h
  · exact .inr ⟨b, off, rfl, fun j hj => cell_kept (h j hj) hg hr⟩
theorem OkT.own {β : Type} (a b n k : Nat) (v : Value) : Own (fun (_ : β) W => OkT a b n k v W) := by
  rintro s A B row ⟨x, m, c, e, h⟩ hg hr
  exact ⟨x, m, c, e, Dg.own v _ s A B row h hg hr⟩
/-- A store into a box of another kind leaves numbers as they were. -/
theorem Dg.stored {W : World} {g : Nat} {t : TypeId} {u v : Value} {x : Nat} (u' : Value) (hu : ∀ k i, u ≠ .int k i) (hb : Boxed W g t u) (h : Dg W v x) : Dg (W.setCell ⟨g, 0, none⟩ u') v x := by
  obtain ⟨a, c, rfl, hf, ha, hc, h⟩ := h
  refine ⟨a, c, rfl, hf, ha, hc, ?_⟩
  rcases h with h | ⟨b, off, rfl, h⟩
  · exact .inl h
  · refine .inr ⟨b, off, rfl, fun j hj => ?_⟩
    have hj' := h j hj
    have ne : b ≠ g := by
      intro e
      subst e
      have hq : W.heap[b]? = some (.cells #[u] t (0, 0)) := hb
      rw [World.cell?] at hj'
      simp only [hq] at hj'
      cases hz : off + j with
      | zero => rw [hz] at hj'; exact hu _ _ (by simpa using hj')
      | succ z => rw [hz] at hj'; simp at hj'
    rw [World.cell?_of_block (Below.heap_setCell _ _ _ _ ne)]
    exact hj'
theorem Kg.puts {g : Nat} (V : World) (l : Nat) (o o' : Obj) (h : V.heap[l]? = some o) (hc : o.isCells = false) : Kg g V (V.putObj l o') :=
  ⟨fun p v _ e => cell_kept e (grownBy_putObj' V l o') (fun r e => by cases e; exact ⟨o, h, hc⟩), fun v x d => Dg.own (β := Unit) v x () _ _ _ d (grownBy_putObj' V l o') (fun r e => by cases e; exact ⟨o, h, hc⟩)⟩
/-- Behind 'sum = sum + term'. -/
theorem Kg.sums {g : Nat} {W W1 : World} {t : TypeId} {u : Value} (u' : Value) (hu : ∀ k i, u ≠ .int k i) (hb : Boxed W g t u) (h : Below W.heap.size W W1) : Kg g W (W1.setCell ⟨g, 0, none⟩ u') :=
  ⟨fun p v hp e => (World.cell?_of_block (Below.heap_setCell _ _ _ _ hp)).trans (kept_cell h e), fun v x d => (d.below h).stored u' hu (hb.kept (grown_of h) (by simp))⟩
theorem keeps_sums {B g : Nat} {W W1 : World} (u' : Value) (h : Below W.heap.size W W1) : KeepsFrom B W (W1.setCell ⟨g, 0, none⟩ u') :=
  KeepsFrom.trans ⟨h.size, fun k _ _ hk _ => (h.block k (Array.getElem?_eq_some_iff.1 hk).1).trans hk⟩ ((KeepsOthers.setCell W1 _ u').from B)
theorem terms_any (n a b : Int) (w : World) : Calls Try.prog 77 #[.int .i64 n, .int .i64 a, .int .i64 b] w fun e w' =>
    e = .returned (.func (.func 93) #[] #[.pointer (some ⟨w.heap.size + 1 + 1, 0, none⟩), .pointer (some ⟨w.heap.size, 0, none⟩), .pointer (some ⟨w.heap.size + 1, 0, none⟩)]) ∧ w' = ((w.alloc (.cells #[.int .i64 n] 3)).alloc (.cells #[.int .i64 a] 3)).alloc (.cells #[.int .i64 b] 3) := by
  go_enter Try.func77, Try.ntmps77
  go_wp2
  go_ret
  exact ⟨rfl, rfl⟩
/-- A box that holds a number. -/
def Sum (g x : Nat) (V : World) : Prop := ∃ a m c, Boxed V g 29 (.slice a m c) ∧ Dg V (.slice a m c) x
theorem Sum.own (g x : Nat) : Own (fun (_ : Unit) V => Sum g x V) := by
  rintro s A B row ⟨a, m, c, hb, hd⟩ hg hr
  exact ⟨a, m, c, boxed_own _ _ (fun (_ : Unit) => _) () A B row hb hg hr, Dg.own (β := Unit) _ _ () A B row hd hg hr⟩
theorem add_dig (v u : Value) (x y : Nat) (w : World) (h : Dg w v x) (h' : Dg w u y) (hs : x + y < Nt.top) :
    Calls Try.prog 25 #[v, u] w fun e w' => ∃ a n c, e = .returned (.tuple #[.slice a n c, .int .i64 0]) ∧ Dg w' (.slice a n c) (x + y) ∧ Below w.heap.size w w' := by
  have := add3_any v u _ _ w h h'
  rw [addR_dig hs] at this; exact this
set_option maxRecDepth 100000 in
set_option maxHeartbeats 3200000 in
theorem orFewer_any (n k p : Nat) (w : World) (hn : n ≤ 500) (hk : k ≤ n) (hp : p ≤ 10000) :
    Calls Try.prog 59 #[.int .i64 n, .int .i64 k, .int .i64 p] w (Num (Bn.S p (10000 - p) n (k + 1)) w) := by
  refine (callsIn_wide (n := 6)).1 ?_
  obtain ⟨q, hq⟩ : ∃ q, q = 10000 - p := ⟨_, rfl⟩
  rw [← hq]
  have eq : (10000 : Int) - (p : Int) = (q : Int) := by omega
  have hpq : p + q ≤ 10000 := by omega
  have q1 : (q : Int) ≤ 10000 := by omega
  have p1 : (p : Int) ≤ 10000 := by omega
  have rq : wrap64 (q : Int) = (q : Int) := by rw [← IntWalk.i64_left]; exact IntWalk.i64_in _ (by omega)
  have TE := Lib.hid (fun w' => terms_any n p q w')
  clear hq
  refine callsIn_of_wp_marks Try.func59 rfl trivial ?_ rfl
  simp only [Try.ntmps59, List.size_toArray, List.length_cons, List.length_nil, Nat.reduceAdd, Nat.reduceSub, Array.replicate_succ, Array.replicate_zero, List.push_toArray, List.append_toArray, List.nil_append, List.cons_append]
  have hF : Fence.wide.fn 77 := trivial
  gi_wp2_with (gi_at_call 77; refine (callsIn_wide.2 (TE.out _)).mono ?_; rintro e w1 ⟨rfl, rfl⟩)
  obtain ⟨W0, hW0⟩ : ∃ W0, W0 = ((((w.alloc (.cells #[.int .i64 k] 3)).alloc (.cells #[.slice none 0 0] 29)).alloc (.cells #[.int .i64 n] 3)).alloc (.cells #[.int .i64 p] 3)).alloc (.cells #[.int .i64 q] 3) := ⟨_, rfl⟩
  have sz : W0.heap.size = w.heap.size + 5 := by rw [hW0]; simp
  have bl : Below w.heap.size w W0 := by rw [hW0]; exact (((((Below.refl _ w).alloc (Nat.le_refl _) _).alloc (by simp) _).alloc (by simp; omega) _).alloc (by simp; omega) _).alloc (by simp; omega) _
  have bK : Boxed W0 w.heap.size 3 (.int .i64 k) := by rw [hW0]; exact ((((Boxed.new w _ _).alloc _).alloc _).alloc _).alloc _
  have bS : Boxed W0 (w.heap.size + 1) 29 (.slice none 0 0) := by
    rw [hW0]
    have := Boxed.new (w.alloc (.cells #[.int .i64 k] 3)) 29 (.slice none 0 0)
    rw [World.size_alloc] at this
    exact ((this.alloc _).alloc _).alloc _
  have cn : W0.cell? ⟨w.heap.size + 1 + 1, 0, none⟩ = some (.int .i64 n) := by
    rw [hW0]
    have := Boxed.new ((w.alloc (.cells #[.int .i64 k] 3)).alloc (.cells #[.slice none 0 0] 29)) 3 (.int .i64 n)
    rw [World.size_alloc, World.size_alloc] at this
    exact ((this.alloc _).alloc _).cell
  have ca : W0.cell? ⟨w.heap.size + 1 + 1 + 1, 0, none⟩ = some (.int .i64 p) := by
    rw [hW0]
    have := Boxed.new (((w.alloc (.cells #[.int .i64 k] 3)).alloc (.cells #[.slice none 0 0] 29)).alloc (.cells #[.int .i64 n] 3)) 3 (.int .i64 p)
    rw [World.size_alloc, World.size_alloc, World.size_alloc] at this
    exact (this.alloc _).cell
  have cb : W0.cell? ⟨w.heap.size + 1 + 1 + 1 + 1, 0, none⟩ = some (.int .i64 q) := by
    rw [hW0]
    have := Boxed.new ((((w.alloc (.cells #[.int .i64 k] 3)).alloc (.cells #[.slice none 0 0] 29)).alloc (.cells #[.int .i64 n] 3)).alloc (.cells #[.int .i64 p] 3)) 3 (.int .i64 q)
    rw [World.size_alloc, World.size_alloc, World.size_alloc, World.size_alloc] at this
    exact this.cell
  rw [← hW0]
  have HA := terms1_hands 5 (by omega) p q n (w.heap.size + 1) (w.heap.size + 1 + 1 + 1 + 1) (w.heap.size + 1 + 1) (w.heap.size + 1 + 1 + 1) hn hpq W0 cb cn ca (by omega) (by omega) (by omega)
  clear hW0 cn ca cb TE hF
  refine over_hands (n := 6) (gf := 93) (w0 := W0) (by omega) rfl (enters_of Try.func93 (by kernel_rfl) rfl) HA (Below.refl _ _) (fun _ _ => rfl)
    (fun j V => j ≤ k + 1 ∧ Sum (w.heap.size + 1) (Bn.S p q n j) V ∧ Boxed V w.heap.size 3 (.int .i64 k) ∧ Below w.heap.size w V)
    (fun c j V => c = .exit 0 ∧ j = k + 1 ∧ Sum (w.heap.size + 1) (Bn.S p q n j) V ∧ Below w.heap.size w V)
    (fun s A B row h hg hr => ⟨h.1, Sum.own _ _ () A B row h.2.1 hg (fun r e => (hr r e).2), boxed_own _ _ (fun (_ : Unit) => _) () A B row h.2.2.1 hg (fun r e => (hr r e).2), ownFrom_below (β := Unit) (B := W0.heap.size) (Nat.le_refl _) (by omega) () A B row h.2.2.2 hg hr⟩)
    (fun c s A B row h hg hr => ⟨h.1, h.2.1, Sum.own _ _ () A B row h.2.2.1 hg (fun r e => (hr r e).2), ownFrom_below (β := Unit) (B := W0.heap.size) (Nat.le_refl _) (by omega) () A B row h.2.2.2 hg hr⟩)
    (fun j v => (OkT.own p q n j v).from _) (fun h k => h.trans k) (fun V l o o' _ h hc => Kg.puts V l o o' h hc)
    ⟨by omega, ⟨none, 0, 0, bS, Lm.nil W0⟩, bK, bl⟩
    (fun j v => { tmps := #[.int .i64 n, .int .i64 k, .int .i64 p, undef, .pointer (some ⟨w.heap.size, 0, none⟩), undef, .slice none 0 0, .pointer (some ⟨w.heap.size + 1, 0, none⟩), .int .i64 j, v, .int .i64 n, .int .i64 p, .int .i64 p, .int .i64 q,
      .func (.func 93) #[] #[.pointer (some ⟨w.heap.size + 1 + 1 + 1 + 1, 0, none⟩), .pointer (some ⟨w.heap.size + 1 + 1, 0, none⟩), .pointer (some ⟨w.heap.size + 1 + 1 + 1, 0, none⟩)],
      .int .i64 j, v, undef, undef, undef, undef, undef, undef, undef, undef, undef, undef], defers := [] }) ?assign ?body ?done ?stop
  case assign =>
    intro l j v V Z hZ
    dsimp only [enc2]
    gi_wp2
    exact hZ
  case body =>
    rintro l j v V hj ⟨hjk, ⟨x, m, c, hb, hd⟩, hk2, hB⟩ ⟨x2, m2, c2, rfl, ht⟩
    have hc := hb.cell
    have hf := hb.frozen
    have hkc := hk2.cell
    have AD := Lib.hid (add_dig _ _ _ _ V hd ht (by
      have h1 : Bn.S p q n j + Bn.T p q n j = Bn.S p q n (j + 1) := rfl
      rw [h1]
      have := S_top (k := j + 1) (y := 1) hn hpq (by omega)
      omega))
    have HB := Lib.hid hb
    have HL := Lib.hid hB
    have HK := Lib.hid hk2
    have hF : Fence.wide.fn 25 := trivial
    by_cases hjj : j ≤ k
    · have dj : decide (k < j) = false := decide_eq_false (by omega)
      clear hb hd hk2 hB ht HA bl bK bS
      gi_wp2_with (gi_at_call 25; refine (CallsIn.inRound l (callsIn_wide.2 AD.out)).mono ?_; rintro e w1 ⟨x3, m3, c3, rfl, d3, b3⟩; have hc1 := kept_cell b3 hc; have hf1 := (HB.out.kept (grown_of b3) (by simp)).frozen)
      exact ⟨keeps_sums _ b3, Kg.sums _ (fun _ _ e => by cases e) HB.out b3, by omega, ⟨x3, m3, c3, (HB.out.kept (grown_of b3) (by simp)).set _, Dg.stored _ (fun _ _ e => by cases e) (HB.out.kept (grown_of b3) (by simp)) d3⟩, (HK.out.kept (grown_of b3) (by simp)).other (by omega) _, (HL.out.trans (b3.mono HL.out.size)).setCell (p := ⟨w.heap.size + 1, 0, none⟩) (by simp) _⟩
    · have dj : decide (k < j) = true := decide_eq_true (by omega)
      gi_wp2
      exact ⟨KeepsFrom.refl _ _, rfl, by omega, ⟨x, m, c, HB.out, hd⟩, HL.out⟩
  case done =>
    rintro D V hD ⟨h1, ⟨x, m, c, hb, hd⟩, hk2, hB⟩ hK
    obtain rfl : k = n := by omega
    have hc := hb.cell
    gi_wp2
    refine ⟨by simp, .inl ⟨_, _, rfl, run_takeDeferred hK, ?_⟩⟩
    exact ⟨_, results_tmp rfl _ _ _, x, m, c, rfl, (Dg.own (β := Unit) _ _ () _ _ _ hd (grownBy_putObj' V D _) (fun r e => by cases e; exact ⟨_, hK, rfl⟩)), hB.trans (belowK_b (w := w) (Nat.le_refl _) V D _ _ (by omega) hK rfl rfl)⟩
  case stop =>
    rintro D c k' V hD hk' ⟨rfl, rfl, ⟨x, m, c, hb, hd⟩, hB⟩ hK
    have hc := hb.cell
    gi_wp2
    refine ⟨by simp, .inl ⟨_, _, rfl, run_takeDeferred hK, ?_⟩⟩
    exact ⟨_, results_tmp rfl _ _ _, x, m, c, rfl, (Dg.own (β := Unit) _ _ () _ _ _ hd (grownBy_putObj' V D _) (fun r e => by cases e; exact ⟨_, hK, rfl⟩)), hB.trans (belowK_b (w := w) (Nat.le_refl _) V D _ _ (by omega) hK rfl rfl)⟩
end Go.Proofs.Ytjfopggpohakkaa
