/- Contract of Quantile. -/
import Derived.Test.YtjfopggpohakkaaSk
namespace Go.Proofs.Ytjfopggpohakkaa
open Go.RowKit Go.Shelf

/-- Which of the ordered numbers is wanted. -/
def qW (n q : Nat) : Nat := max 1 ((q * n + 9999) / 10000)
def qE (n : Nat) (q : Int) : Int := if 10000 < n then 5 else if shB q = false then 2 else if n = 0 then 6 else 0
def qV (zs : List Int) (q : Int) : Int := if qE zs.length q = 0 then (srt zs).getD (qW zs.length q.toNat - 1) 0 else 0
theorem qW_pos (n q : Nat) : 1 ≤ qW n q := Nat.le_max_left _ _
theorem qW_le {n q : Nat} (hn : 1 ≤ n) (hq : q ≤ 10000) : qW n q ≤ n := by
  unfold qW
  refine Nat.max_le.2 ⟨hn, ?_⟩
  have := Nat.mul_le_mul_right n hq
  omega
theorem qE_ok {n : Nat} {q : Int} (h : qE n q = 0) : n ≤ 10000 ∧ shB q = true ∧ 0 < n := by
  unfold qE at h
  split at h
  · omega
  · split at h
    · omega
    · rename_i h1 h2
      split at h
      · omega
      · exact ⟨by omega, by simpa using h2, by omega⟩
set_option maxHeartbeats 1600000 in
theorem values_any (a : Option Addr) (n c : Nat) (w : World) : Calls Try.prog 69 #[.slice a n c] w fun e w' =>
    e = .returned (.func (.func 90) #[] #[.pointer (some ⟨w.heap.size, 0, none⟩)]) ∧ w' = w.alloc (.cells #[.slice a n c] 24) := by
  go_enter Try.func69, Try.ntmps69
  go_wp2
  go_ret
  exact ⟨rfl, rfl⟩
theorem Sl.at {w : World} {a : Option Addr} {n c j : Nat} {zs : List Int} (h : Sl w (.slice a n c) zs) (hj : j < zs.length) : ∃ b off, a = some ⟨b, off, none⟩ ∧ w.cell? ⟨b, off + j, none⟩ = some (.int .i64 (zs.getD j 0)) := by
  obtain ⟨a', c', e, h⟩ := h
  obtain ⟨rfl, _, rfl⟩ := Value.slice.inj e
  rcases h with h | ⟨b, off, rfl, h⟩
  · rw [h] at hj; simp at hj
  · exact ⟨b, off, rfl, h j hj⟩
set_option maxRecDepth 100000 in
set_option maxHeartbeats 3200000 in
theorem quantile_any (v : Value) (zs : List Int) (q : Int) (w : World) (h : Sl w v zs) :
    Calls Try.prog 37 #[v, .int .i64 q] w fun e w' => e = .returned (.tuple #[.int .i64 (qV zs q), .int .i64 (qE zs.length q)]) ∧ Below w.heap.size w w' := by
  have HS := Lib.hid h
  have SH := Lib.hid (fun w' => share_any q w')
  obtain ⟨a, c, rfl, _⟩ := h
  obtain ⟨n, hn⟩ : ∃ n, n = zs.length := ⟨_, rfl⟩
  have HN := Lib.hid hn
  rw [← hn] at HS ⊢
  by_cases h1 : 10000 < n
  · have E : Hid (qE n q = 5) := by show _ = _; unfold qE; rw [if_pos h1]
    have V : Hid (qV zs q = 0) := by show _ = _; unfold qV; rw [← hn, E.out]; rfl
    have g1 : (10000 : Int) < (n : Int) := by omega
    rw [E.out, V.out]
    clear hn
    go_enter Try.func37, Try.ntmps37
    go_wp2
    go_ret2
    exact ⟨rfl, Below.refl _ _⟩
  · cases hb : shB q with
    | false =>
      have E : Hid (qE n q = 2) := by show _ = _; unfold qE; rw [if_neg h1, if_pos hb]
      have V : Hid (qV zs q = 0) := by show _ = _; unfold qV; rw [← hn, E.out]; rfl
      have g1 : (n : Int) ≤ (10000 : Int) := by omega
      rw [hb] at SH
      rw [E.out, V.out]
      clear hn hb h1
      go_enter Try.func37, Try.ntmps37
      go_wp2_with (go_at_call 51; with_reducible refine (SH.out _).mono ?_; rintro e w1 ⟨rfl, rfl⟩)
      go_ret2
      exact ⟨rfl, Below.refl _ _⟩
    | true =>
      by_cases h2 : n = 0
      · have E : Hid (qE n q = 6) := by show _ = _; unfold qE; rw [if_neg h1, if_neg (by rw [hb]; simp), if_pos h2]
        have V : Hid (qV zs q = 0) := by show _ = _; unfold qV; rw [← hn, E.out]; rfl
        rw [hb] at SH
        rw [E.out, V.out]
        subst h2
        clear hn hb h1
        go_enter Try.func37, Try.ntmps37
        go_wp2_with (go_at_call 51; with_reducible refine (SH.out _).mono ?_; rintro e w1 ⟨rfl, rfl⟩)
        go_ret2
        exact ⟨rfl, Below.refl _ _⟩
      · obtain ⟨q, rfl, hq⟩ := share_nat hb
        have E : Hid (qE n q = 0) := by show _ = _; unfold qE; rw [if_neg h1, if_neg (by rw [hb]; simp), if_neg h2]
        have V : Hid (qV zs q = (srt zs).getD (qW n q - 1) 0) := by show _ = _; unfold qV; rw [← hn, if_pos E.out, Int.toNat_natCast]
        rw [hb] at SH
        rw [E.out, V.out]
        have VA := Lib.hid (values_any a n c w)
        have SO : Hid (Calls Try.prog 68 #[.func (.func 90) #[] #[.pointer (some ⟨w.heap.size, 0, none⟩)]] (w.alloc (.cells #[.slice a n c] 24)) fun e w' => ∃ a c, e = .returned (.slice a n c) ∧ Sl w' (.slice a n c) (srt zs) ∧ n ≤ c ∧ Below w.heap.size w w') := by
          have b0 : Below w.heap.size w (w.alloc (.cells #[.slice a n c] 24)) := (Below.refl _ w).alloc (Nat.le_refl _) _
          have := sorted_any w.heap.size (.slice a n c) zs (by omega) (w.alloc (.cells #[.slice a n c] 24)) (Boxed.new w _ _).cell (Lie.of (HS.out.below b0))
          rw [← hn] at this
          refine Calls.mono this ?_
          rintro e w' ⟨a', c', rfl, h1, h2, h3⟩
          exact ⟨a', c', rfl, h1, h2, b0.trans (h3.mono b0.size)⟩
        obtain ⟨k, hk⟩ : ∃ k, k = qW n q := ⟨_, rfl⟩
        have k1 : 1 ≤ k := by rw [hk]; exact qW_pos n q
        have kn : k ≤ n := by rw [hk]; exact qW_le (by omega) hq
        have g1 : (n : Int) ≤ (10000 : Int) := by omega
        have g2 : (1 : Int) ≤ (n : Int) := by omega
        obtain ⟨m, hm⟩ : ∃ m, m = q * n := ⟨_, rfl⟩
        have m1 : m ≤ 100000000 := by rw [hm]; exact Nat.le_trans (Nat.mul_le_mul hq (show n ≤ 10000 by omega)) (by decide)
        have e1 : (q : Int) * (n : Int) = (m : Int) := by rw [hm]; exact (Int.natCast_mul q n).symm
        have m2 : (m : Int) ≤ 100000000 := by omega
        have q2 : (q : Int) ≤ 10000 := by omega
        have r1 : wrap64 (m : Int) = (m : Int) := by rw [← IntWalk.i64_left]; exact IntWalk.i64_in _ (by omega)
        have n0 : ((n : Int) == 0) = false := by rw [beq_eq_false_iff_ne]; omega
        obtain ⟨j, hj⟩ : ∃ j, k = j + 1 := ⟨k - 1, by omega⟩
        have e4 : max 1 (((m : Int) + 10000 - 1) / 10000) = (j : Int) + 1 := by
          have h3 : (((m + 9999) / 10000 : Nat) : Int) = ((m : Int) + 10000 - 1) / 10000 := by omega
          have h4 : j + 1 = max 1 ((m + 9999) / 10000) := by rw [← hj, hk, hm]; rfl
          rw [← h3]
          omega
        have j1 : (j : Int) + 1 ≤ (n : Int) := by omega
        have jn : Hid (j < n) := by show _ < _; omega
        rw [← hk, hj, Nat.add_sub_cancel]
        have LN := Lib.hid (srt_len zs)
        clear hn hb h1 h2 hk hm hj k1 kn
        go_enter Try.func37, Try.ntmps37
        go_wp2_with (first
          | (go_at_call 51; with_reducible refine (SH.out _).mono ?_; rintro e w1 ⟨rfl, rfl⟩)
          | (go_at_call 69; with_reducible refine VA.out.mono ?_; rintro e w1 ⟨rfl, rfl⟩)
          | (go_at_call 68; refine SO.out.mono ?_; rintro e w2 ⟨a2, c2, rfl, h2, hc2, b2⟩; obtain ⟨b3, off3, rfl, hcell⟩ := Sl.at h2 (by rw [LN.out, ← HN.out]; exact jn.out)))
        go_ret2
        exact ⟨rfl, b2⟩
end Go.Proofs.Ytjfopggpohakkaa
