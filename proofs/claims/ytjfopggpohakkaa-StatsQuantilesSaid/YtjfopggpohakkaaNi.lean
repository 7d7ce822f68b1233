/- Contracts of Add, Sub. -/
import Derived.Test.YtjfopggpohakkaaNh
namespace Go.Proofs.Ytjfopggpohakkaa
open Go.RowKit

theorem made_z (n : Nat) : (madeCells (Value.int .u32 0).cells (n * 1)).toList = cv (List.replicate n 0) := by
  simp [madeCells, Value.cells, Nat.mod_one, cv, List.map_const']
/-- A row that is known whole. -/
def Rf (w : World) (g : Nat) (l : List Nat) : Prop := Nt.Fit l ∧ w.heap[g]? = some (.cells (cv l).toArray 55 (0, 0))
theorem Rf.rw {w : World} {g : Nat} {l : List Nat} (h : Rf w g l) : Rw w g l := by
  refine ⟨h.1, _, _, h.2, fun j hj => ?_⟩
  rw [List.getElem?_toArray]
  unfold cv
  rw [List.getElem?_map, List.getElem?_eq_getElem hj, List.getD_eq_getElem?_getD, List.getElem?_eq_getElem hj]
  rfl
theorem made_rf {w : World} {B g n : Nat} (h : w.ownsRow B 55 1 (.slice (some ⟨g, 0, none⟩) n n) n (madeCells (Value.int .u32 0).cells (n * 1)).toList) : Rf w g (List.replicate n 0) := by
  rw [made_z] at h
  refine ⟨Nt.fit_zeros n, ?_⟩
  rcases h.2 with ⟨h', _⟩ | ⟨g', cap', cur, h', _, hg, _, _, hs, ht⟩
  · simp at h'
  · simp only [Value.slice.injEq, Option.some.injEq, Addr.mk.injEq, and_true, true_and] at h'
    obtain ⟨rfl, rfl⟩ := h'
    have e : cur.toList = cv (List.replicate n 0) := by
      rw [← ht, List.take_of_length_le (by rw [Array.length_toList, hs]; exact Nat.le_refl _)]
    rw [← e, Array.toArray_toList]; exact hg
theorem cv_splice (L : List Nat) (o : Nat) (c : List Nat) : cv (Go.splice L o c) = Go.splice (cv L) o (cv c) := by
  unfold Go.splice cv
  rw [List.map_append, List.map_append, List.map_take, List.map_drop, List.length_map]
/-- A number in a row of zeros. -/
theorem val_lay {l : List Nat} {N : Nat} (h : l.length ≤ N) : Nt.val (Go.splice (List.replicate N 0) 0 l) = Nt.val l := by
  rw [Nt.val_splice (by rw [List.length_replicate]; omega), List.drop_replicate, Nt.val_zeros, Nat.mul_zero, Nat.add_zero]
  show 0 + Nt.B ^ 0 * Nt.val l = Nt.val l
  rw [Nat.pow_zero, Nat.one_mul, Nat.zero_add]
theorem pow_top_sum {B a b r k n m N : Nat} (two : 2 ≤ B) (ha : a < B ^ n) (hb : b < B ^ m) (hn : n + 1 ≤ N) (hm : m + 1 ≤ N) (h : r + B ^ N * k = a + 1 * b) : r = a + b := by
  obtain ⟨M, rfl⟩ : ∃ M, N = M + 1 := ⟨N - 1, by omega⟩
  have p1 := Nat.pow_le_pow_right (show 0 < B by omega) (show n ≤ M by omega)
  have p2 := Nat.pow_le_pow_right (show 0 < B by omega) (show m ≤ M by omega)
  rw [Nat.pow_succ, Nat.one_mul] at h
  have k0 : k = 0 := by
    refine Nat.eq_zero_of_not_pos fun hc => ?_
    have m1 := Nat.mul_le_mul_left (B ^ M * B) (show 1 ≤ k from hc)
    have m2 := Nat.mul_le_mul_left (B ^ M) two
    omega
  subst k0
  omega
theorem add_numR {l m : List Nat} (h : Nt.rg l = true) (h' : Nt.rg m = true) : Nt.addR l m = Nt.numR (Nt.val l + Nt.val m) := by
  unfold Nt.addR Nt.numR; rw [if_pos ⟨h, h'⟩]
theorem add_no {l m : List Nat} (h : ¬ (Nt.rg l = true ∧ Nt.rg m = true)) : Nt.addR l m = ([], 2) := by
  unfold Nt.addR; rw [if_neg h]
theorem put1_any (g n c : Nat) (L m : List Nat) (v : Value) (w : World) (hr : Rw w g L) (ho : n ≤ L.length) (hn : n ≤ 1000000) (hc : n ≤ c) (hm : Lx g w v m) :
    Calls Try.prog 61 #[.slice (some ⟨g, 0, none⟩) n c, v, .int .u32 1] w fun e w' => ∃ r k, e = .returned (.int .u32 (k : Nat)) ∧ PutO g 0 n 1 L m w w' r k :=
  put_any g 0 n c 1 L m v w hr (by omega) hn hc hm (by decide)
set_option maxRecDepth 100000 in
set_option maxHeartbeats 1600000 in
theorem add3_any (v u : Value) (l m : List Nat) (w : World) (h : Lm w v l) (h' : Lm w u m) :
    Calls Try.prog 25 #[v, u] w fun e w' => ∃ a n c, e = .returned (.tuple #[.slice a n c, .int .i64 (Nt.addR l m).2]) ∧ Lm w' (.slice a n c) (Nt.addR l m).1 ∧ Below w.heap.size w w' := by
  have LV := Lib.hid h
  have LU := Lib.hid h'
  obtain ⟨a, c, rfl, hf, ha, hcap, h⟩ := h
  obtain ⟨a', c', rfl, hf', ha', hcap', -⟩ := h'
  obtain ⟨n, hn⟩ : ∃ n, n = l.length := ⟨_, rfl⟩
  obtain ⟨n', hn'⟩ : ∃ n, n = m.length := ⟨_, rfl⟩
  rw [← hn] at hcap LV ⊢
  rw [← hn'] at hcap' LU ⊢
  cases hrl : Nt.rg l with
  | false =>
    have R := Lib.hid (right_b3 _ l false w LV.out hrl)
    have E := Lib.hid (add_no (l := l) (m := m) (fun x => by rw [hrl] at x; cases x.1))
    clear h hn hn' hf hf' ha ha' hrl
    go_enter Try.func25, Try.ntmps25
    go_wp2_with (go_at_call 60; with_reducible refine R.out.mono ?_; rintro e w2 ⟨rfl, rfl⟩)
    go_ret2
    rw [E.out]
    exact ⟨_, _, _, rfl, Lm.nil _, Below.refl _ _⟩
  | true =>
    cases hrm : Nt.rg m with
    | false =>
      have R := Lib.hid (right_b3 _ l true w LV.out hrl)
      have R' := Lib.hid (right_b3 _ m false w LU.out hrm)
      have E := Lib.hid (add_no (l := l) (m := m) (fun x => by rw [hrm] at x; cases x.2))
      clear h hn hn' hf hf' ha ha' hrl hrm
      go_enter Try.func25, Try.ntmps25
      go_wp2_with (first
        | (go_at_call 60; with_reducible refine R.out.mono ?_; rintro e w2 ⟨rfl, rfl⟩)
        | (go_at_call 60; with_reducible refine R'.out.mono ?_; rintro e w2 ⟨rfl, rfl⟩))
      go_ret2
      rw [E.out]
      exact ⟨_, _, _, rfl, Lm.nil _, Below.refl _ _⟩
    | true =>
      have R := Lib.hid (right_b3 _ l true w LV.out hrl)
      have R' := Lib.hid (right_b3 _ m true w LU.out hrm)
      have E := Lib.hid (add_numR hrl hrm)
      have nl : n ≤ 1024 := by rw [hn]; exact ((Nt.rg_iff l).1 hrl).1
      have nm : n' ≤ 1024 := by rw [hn']; exact ((Nt.rg_iff m).1 hrm).1
      obtain ⟨N, hN⟩ : ∃ N, N = max n n' + 1 := ⟨_, rfl⟩
      have N1 : n + 1 ≤ N := by omega
      have N2 : n' + 1 ≤ N := by omega
      have N3 : N ≤ 1025 := by omega
      have NI : (max (n : Int) (n' : Int)) + 1 = (N : Int) := by omega
      have HN := Lib.hid hn
      have HN' := Lib.hid hn'
      have HF := Lib.hid hf
      have HF' := Lib.hid hf'
      have HC := Lib.hid (cv_cells h)
      obtain ⟨i0, hi, hz0, hz1, hz2⟩ := info_parts info_limb
      have BB4 : i0.bytes * N ≤ 281474976710656 := by rw [hz2]; omega
      have SZ : (Try.prog.info? 55).map (·.size) = some 1 := by rw [hi]; show some i0.size = some 1; rw [hz1]
      obtain ⟨S, hS⟩ : ∃ S, S = Go.splice (List.replicate N 0) 0 l := ⟨_, rfl⟩
      have FS : Nt.Fit S := by rw [hS]; exact Nt.fit_splice (Nt.fit_zeros N) hf
      have SL : Hid (S.length = N) := by show _ = _; rw [hS, length_splice _ _ _ (by rw [List.length_replicate]; omega), List.length_replicate]
      have SV : Hid (Nt.val S = Nt.val l) := by show _ = _; rw [hS]; exact val_lay (by omega)
      have CN : Hid ((cv l).length = Nat.min n N) := by show _ = _; rw [cv_len, ← hn]; exact (Nat.min_eq_left (by omega)).symm
      have CF : Hid (0 + (cv l).length ≤ (cv (List.replicate N 0)).length) := by show _ ≤ _; rw [cv_len, cv_len, List.length_replicate]; omega
      have HO := Lib.hid (cv_one l)
      have CP : Hid (∀ w2, Below w.heap.size w w2 → 0 < (cv l).length → ∃ ad, a = some ad ∧ ∀ j v, (cv l)[j]? = some v → w2.cell? (ad.add j) = some v) := by
        intro w2 hb2 hpos
        cases ha2 : a with
        | none => have := ha ha2; rw [cv_len] at hpos; omega
        | some ad =>
          refine ⟨ad, rfl, fun j v hj => ?_⟩
          have := HC.out ad ha2 j v hj
          exact (hb2.cell (World.block_lt_of_cell? _ _ this)).trans this
      have CS : Hid (∀ w3, w3.heap[w.heap.size]? = some (.cells (Go.splice (cv (List.replicate N 0)) 0 (cv l)).toArray 55 (0, 0)) → Rw w3 w.heap.size S) := by
        intro w3 h3
        refine Rf.rw ⟨FS, ?_⟩
        rw [hS, cv_splice]; exact h3
      have PT : Hid (∀ w3, Below w.heap.size w w3 → Rw w3 w.heap.size S → Calls Try.prog 61 #[.slice (some ⟨w.heap.size, 0, none⟩) N N, .slice a' n' c', .int .u32 1] w3 fun e w' => ∃ r k, e = .returned (.int .u32 (k : Nat)) ∧ PutO w.heap.size 0 N 1 S m w3 w' r k) :=
        fun w3 b3 r3 => put1_any _ N N S m _ w3 r3 (by rw [SL.out]; exact Nat.le_refl _) (by omega) (Nat.le_refl _) ((LU.out.lx (Nat.le_refl _)).sv (Sv.of_below b3))
      have NB : Hid (∀ w3 w4 r k, PutO w.heap.size 0 N 1 S m w3 w4 r k → Calls Try.prog 62 #[.slice (some ⟨w.heap.size, 0, none⟩) N N] w4 fun e w' => ∃ a n c, e = .returned (.tuple #[.slice a n c, .int .i64 (Nt.numR (Nt.val l + Nt.val m)).2]) ∧ Lm w' (.slice a n c) (Nt.numR (Nt.val l + Nt.val m)).1 ∧ Qt w4 w') := by
        rintro w3 w4 r k ⟨-, rl, rf, re, rr, -⟩
        have rr' := rr
        rw [show Go.splice S 0 r = r by unfold Go.splice; rw [List.take_zero, List.nil_append, Nat.zero_add, rl, List.drop_of_length_le (by have := SL.out; omega), List.append_nil]] at rr'
        have L4 := rr'.lm (c := N) (by omega)
        rw [rl] at L4
        refine number3_any _ r _ w4 L4 (by omega) ?_
        rw [show Nt.part S 0 N = S by have := Nt.part_all S; rw [SL.out] at this; exact this, SV.out, List.take_of_length_le (by omega)] at re
        exact pow_top_sum Nt.two_B (Nt.val_lt hf) (Nt.val_lt hf') (by omega) (by omega) re
      clear h hn hn' hf hf' ha ha' hrl hrm hN hS
      go_enter Try.func25, Try.ntmps25
      go_wp2_with (first
        | (go_at_call 60; with_reducible refine R.out.mono ?_; rintro e w2 ⟨rfl, rfl⟩)
        | (go_at_call 60; with_reducible refine R'.out.mono ?_; rintro e w2 ⟨rfl, rfl⟩)
        | (refine wpList_make_full _ rfl _ _ 29 rfl w.heap.size 55 i0 (.int .u32 0) 1 Try.underlying29 hi hz0 hz1 .i64 .i64 _ _ N rfl rfl (by omega) (by omega) BB4 (by unfold maxLen; omega) (Nat.le_refl _) ?_; intro w2 hown hgrow; have HG2 := Lib.hid (made_rf hown); have HB2 := Lib.hid ((Below.refl _ w).grown hgrow (Nat.le_refl _) (fun k hk => by cases hk)); clear hown hgrow)
        | (refine wpList_copy_splice rfl _ _ 29 29 rfl 55 Try.underlying29 SZ _ _ _ _ _ _ rfl rfl w.heap.size 0 (cv (List.replicate N 0)) 55 HG2.out.2 (cv l) CN.out (fun hp => ⟨rfl, CP.out w2 HB2.out hp⟩) CF.out HO.out w.heap.size w HB2.out (Nat.le_refl _) ?_; intro w3 hg3 hb3; have HB3 := Lib.hid hb3; have HR3 := Lib.hid (CS.out w3 hg3.out); clear hb3 hg3)
        | (go_at_call 61; with_reducible refine (PT.out w3 HB3.out HR3.out).mono ?_; rintro e w4 ⟨r, k, rfl, o4⟩; have O4 := Lib.hid o4; clear o4)
        | (go_at_call 62; with_reducible refine (NB.out w3 w4 r k O4.out).mono ?_; rintro e w5 ⟨a5, n5, c5, rfl, l5, q5⟩; have L5 := Lib.hid l5; have Q5 := Lib.hid q5; clear l5 q5))
      all_goals
        go_ret2
        rw [E.out]
        refine ⟨_, _, _, rfl, L5.out, ?_⟩
        have s4 : Sv w.heap.size w3 w4 := O4.out.2.2.2.2.2
        have b4 : Below w.heap.size w w4 := Sv.below HB3.out s4 (Nat.le_refl _) HB3.out.size
        exact b4.trans (Q5.out.bl.mono b4.size)
end Go.Proofs.Ytjfopggpohakkaa
