/- Contract of term: one term of the iterator. -/
import Derived.Test.YtjfopggpohakkaaSc
namespace Go.Proofs.Ytjfopggpohakkaa
open Go.RowKit Go.Shelf
attribute [local go_sem] Oper.semAt_some

set_option maxHeartbeats 800000 in
theorem orMore_any (n k p : Nat) (w : World) (hn : n ≤ 500) (hk : k ≤ n) (hp : p ≤ 10000) :
    Calls Try.prog 57 #[.int .i64 n, .int .i64 k, .int .i64 p] w (Num (Bn.Up n k p) w) := by
  obtain ⟨q, hq⟩ : ∃ q, q = 10000 - p := ⟨_, rfl⟩
  obtain ⟨m, hm⟩ : ∃ m, m = n - k := ⟨_, rfl⟩
  have e1 : (10000 : Int) - (p : Int) = (q : Int) := by omega
  have e2 : (n : Int) - (k : Int) = (m : Int) := by omega
  have r1 : wrap64 (q : Int) = (q : Int) := by rw [← IntWalk.i64_left]; exact IntWalk.i64_in _ (by omega)
  have r2 : wrap64 (m : Int) = (m : Int) := by rw [← IntWalk.i64_left]; exact IntWalk.i64_in _ (by omega)
  have F := Lib.hid (orFewer_any n m q w hn (by omega) (by omega))
  have E : Hid (Bn.Up n k p = Bn.S q (10000 - q) n (m + 1)) := by
    show _ = _
    unfold Bn.Up Bn.W
    rw [show 10000 - q = p by omega, ← hq, show n + 1 - k = m + 1 by omega]
  clear hq hm
  rw [E.out]
  go_enter Try.func57, Try.ntmps57
  go_wp2_with (go_at_call 59; with_reducible refine F.out.mono ?_; intro e w1 hq; obtain ⟨x1, k1, c1, rfl, D1, b1⟩ := Num.out hq)
  go_ret
  exact ⟨_, _, _, rfl, D1, b1⟩
set_option maxRecDepth 100000 in
set_option maxHeartbeats 3200000 in
theorem term_any (n k p q : Nat) (w : World) (hn : n ≤ 500) (hk : k ≤ n) (hpq : p + q ≤ 10000) :
    Calls Try.prog 52 #[.int .i64 n, .int .i64 k, .int .i64 p, .int .i64 q] w (Num (Bn.T p q n k) w) := by
  refine (callsIn_wide (n := 6)).1 ?_
  have TE := Lib.hid (fun w' => terms_any n p q w')
  refine callsIn_of_wp_marks Try.func52 rfl trivial ?_ rfl
  simp only [Try.ntmps52, List.size_toArray, List.length_cons, List.length_nil, Nat.reduceAdd, Nat.reduceSub, Array.replicate_succ, Array.replicate_zero, List.push_toArray, List.append_toArray, List.nil_append, List.cons_append]
  have hF : Fence.wide.fn 77 := trivial
  gi_wp2_with (gi_at_call 77; refine (callsIn_wide.2 (TE.out _)).mono ?_; rintro e w1 ⟨rfl, rfl⟩)
  obtain ⟨W0, hW0⟩ : ∃ W0, W0 = ((((w.alloc (.cells #[.int .i64 k] 3)).alloc (.cells #[.slice none 0 0] 29)).alloc (.cells #[.int .i64 n] 3)).alloc (.cells #[.int .i64 p] 3)).alloc (.cells #[.int .i64 q] 3) := ⟨_, rfl⟩
  have sz : W0.heap.size = w.heap.size + 5 := by rw [hW0]; simp
  have bl : Below w.heap.size w W0 := by rw [hW0]; exact (((((Below.refl _ w).alloc (Nat.le_refl _) _).alloc (by simp) _).alloc (by simp; omega) _).alloc (by simp; omega) _).alloc (by simp; omega) _
  have bK : Boxed W0 w.heap.size 3 (.int .i64 k) := by rw [hW0]; exact ((((Boxed.new w _ _).alloc _).alloc _).alloc _).alloc _
  have bS : Boxed W0 (w.heap.size + 1) 29 (.slice none 0 0) := by
    rw [hW0]
    have := Boxed.new (w.alloc (.cells #[.int .i64 k] 3)) 29 (.slice none 0 0)
    rw [World.size_alloc] at this
    exact ((this.alloc _).alloc _).alloc _
  have cn : W0.cell? ⟨w.heap.size + 1 + 1, 0, none⟩ = some (.int .i64 n) := by
    rw [hW0]
    have := Boxed.new ((w.alloc (.cells #[.int .i64 k] 3)).alloc (.cells #[.slice none 0 0] 29)) 3 (.int .i64 n)
    rw [World.size_alloc, World.size_alloc] at this
    exact ((this.alloc _).alloc _).cell
  have ca : W0.cell? ⟨w.heap.size + 1 + 1 + 1, 0, none⟩ = some (.int .i64 p) := by
    rw [hW0]
    have := Boxed.new (((w.alloc (.cells #[.int .i64 k] 3)).alloc (.cells #[.slice none 0 0] 29)).alloc (.cells #[.int .i64 n] 3)) 3 (.int .i64 p)
    rw [World.size_alloc, World.size_alloc, World.size_alloc] at this
    exact (this.alloc _).cell
  have cb : W0.cell? ⟨w.heap.size + 1 + 1 + 1 + 1, 0, none⟩ = some (.int .i64 q) := by
    rw [hW0]
    have := Boxed.new ((((w.alloc (.cells #[.int .i64 k] 3)).alloc (.cells #[.slice none 0 0] 29)).alloc (.cells #[.int .i64 n] 3)).alloc (.cells #[.int .i64 p] 3)) 3 (.int .i64 q)
    rw [World.size_alloc, World.size_alloc, World.size_alloc, World.size_alloc] at this
    exact this.cell
  rw [← hW0]
  have HA := terms1_hands 5 (by omega) p q n (w.heap.size + 1) (w.heap.size + 1 + 1 + 1 + 1) (w.heap.size + 1 + 1) (w.heap.size + 1 + 1 + 1) hn hpq W0 cb cn ca (by omega) (by omega) (by omega)
  clear hW0 cn ca cb TE hF
  refine over_hands (n := 6) (gf := 93) (w0 := W0) (by omega) rfl (enters_of Try.func93 (by kernel_rfl) rfl) HA (Below.refl _ _) (fun _ _ => rfl)
    (fun j V => j ≤ k ∧ Boxed V (w.heap.size + 1) 29 (.slice none 0 0) ∧ Boxed V w.heap.size 3 (.int .i64 k) ∧ Below w.heap.size w V)
    (fun c j V => c = .ret ∧ Sum (w.heap.size + 1) (Bn.T p q n k) V ∧ Below w.heap.size w V)
    (fun s A B row h hg hr => ⟨h.1, boxed_own _ _ (fun (_ : Unit) => _) () A B row h.2.1 hg (fun r e => (hr r e).2), boxed_own _ _ (fun (_ : Unit) => _) () A B row h.2.2.1 hg (fun r e => (hr r e).2), ownFrom_below (β := Unit) (B := W0.heap.size) (Nat.le_refl _) (by omega) () A B row h.2.2.2 hg hr⟩)
    (fun c s A B row h hg hr => ⟨h.1, Sum.own _ _ () A B row h.2.1 hg (fun r e => (hr r e).2), ownFrom_below (β := Unit) (B := W0.heap.size) (Nat.le_refl _) (by omega) () A B row h.2.2 hg hr⟩)
    (fun j v => (OkT.own p q n j v).from _) (fun h k => h.trans k) (fun V l o o' _ h hc => Kg.puts V l o o' h hc)
    ⟨by omega, bS, bK, bl⟩
    (fun j v => { tmps := #[.int .i64 n, .int .i64 k, .int .i64 p, .int .i64 q, undef, .pointer (some ⟨w.heap.size, 0, none⟩), undef, undef, .pointer (some ⟨w.heap.size + 1, 0, none⟩), .int .i64 j, v, .int .i64 n, .int .i64 p, .int .i64 q,
      .func (.func 93) #[] #[.pointer (some ⟨w.heap.size + 1 + 1 + 1 + 1, 0, none⟩), .pointer (some ⟨w.heap.size + 1 + 1, 0, none⟩), .pointer (some ⟨w.heap.size + 1 + 1 + 1, 0, none⟩)],
      .int .i64 j, v, undef, undef, undef, undef], defers := [] }) ?assign ?body ?done ?stop
  case assign =>
    intro l j v V Z hZ
    dsimp only [enc2]
    gi_wp2
    exact hZ
  case body =>
    rintro l j v V hj ⟨hjk, hb, hk2, hB⟩ ⟨x2, m2, c2, rfl, ht⟩
    have hc := hb.cell
    have hf := hb.frozen
    have hkc := hk2.cell
    have HB := Lib.hid hb
    have HL := Lib.hid hB
    have HK := Lib.hid hk2
    have HT := Lib.hid ht
    by_cases hjj : j = k
    · have HJ := Lib.hid hjj
      have dj : ((j : Int) == (k : Int)) = true := by rw [beq_iff_eq]; omega
      clear hb hk2 hB ht HA bl bK bS hjj
      gi_wp2
      exact ⟨(KeepsOthers.setCell _ _ _).from _, rfl, ⟨x2, m2, c2, HB.out.set _, Dg.stored _ (fun _ _ e => by cases e) HB.out (show Dg _ _ _ by rw [← HJ.out]; exact HT.out)⟩, HL.out.setCell (p := ⟨w.heap.size + 1, 0, none⟩) (by simp) _⟩
    · have dj : ((j : Int) == (k : Int)) = false := by rw [beq_eq_false_iff_ne]; omega
      clear hb hk2 hB ht HA bl bK bS
      gi_wp2
      exact ⟨KeepsFrom.refl _ _, ⟨fun _ _ _ h => h, fun _ _ h => h⟩, by omega, HB.out, HK.out, HL.out⟩
  case done =>
    rintro D V hD ⟨h1, _, _, _⟩ hK
    omega
  case stop =>
    rintro D c k' V hD hk' ⟨rfl, ⟨x, m, c, hb, hd⟩, hB⟩ hK
    have hc := hb.cell
    gi_wp2
    refine ⟨by simp, .inl ⟨_, _, rfl, run_takeDeferred hK, ?_⟩⟩
    have hc5 := cell_kept hc (grownBy_putObj' V D (.deferred none)) (fun r e => by cases e; exact ⟨_, hK, rfl⟩)
    refine ⟨.slice x m c, ?_, x, m, c, rfl, (Dg.own (β := Unit) _ _ () _ _ _ hd (grownBy_putObj' V D _) (fun r e => by cases e; exact ⟨_, hK, rfl⟩)), hB.trans (belowK_b (w := w) (Nat.le_refl _) V D _ _ (by omega) hK rfl rfl)⟩
    simp [results, Try.f52, go_sem, hc5]
end Go.Proofs.Ytjfopggpohakkaa
