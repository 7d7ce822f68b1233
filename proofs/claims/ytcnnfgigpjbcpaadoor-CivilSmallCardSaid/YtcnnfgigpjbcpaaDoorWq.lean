/- The reference's working day ahead, and days of the year; civil and the reference answer the same. -/
import Derived.Test.YtcnnfgigpjbcpaaDoorWp
namespace Go.Proofs.YtcnnfgigpjbcpaaDoor
open Go.RowKit

theorem ahead_go (l : List Int) (d n : Int) (m A k : Nat) (hp : l.Pairwise (· < ·)) (hn : 0 ≤ n) (hA : Hol.ahead l d n m = A) (hk : k ≤ A) (hkm : k < m) :
    (Hol.works l (d + k) = false → k + 1 ≤ A ∧ Hol.wb l (d + k + 1) = Hol.wb l (d + k)) ∧ (Hol.works l (d + k) = true → Hol.wb l (d + k) - Hol.wb l d = n → A = k) ∧ (Hol.works l (d + k) = true → Hol.wb l (d + k) - Hol.wb l d ≠ n → k + 1 ≤ A ∧ Hol.wb l (d + k + 1) = Hol.wb l (d + k) + 1) ∧ Hol.wb l (d + k) - Hol.wb l d ≤ n ∧ 0 ≤ Hol.wb l (d + k) - Hol.wb l d := by
  obtain ⟨s1, s2, s3⟩ := Hol.ahead_spec l d n m hp hn
  rw [hA] at s1 s2 s3
  have s := Hol.wb_succ l (d + k) hp
  have mo := Hol.wb_mono l hp (d + k) (d + A) (by omega)
  have m0 := Hol.wb_mono l hp d (d + k) (by omega)
  refine ⟨fun h => ?_, fun h e => ?_, fun h e => ?_, ?_, by omega⟩
  · rw [h] at s
    refine ⟨?_, by simpa using s⟩
    by_cases c : k = A
    · subst c; have := (s2 hkm).1; rw [h] at this; cases this
    · omega
  · rw [← hA]; exact Hol.ahead_eq l d n m k hp hn hkm h e
  · rw [h, if_pos rfl] at s
    refine ⟨?_, s⟩
    by_cases c : k = A
    · subst c; exact absurd (s2 hkm).2 e
    · omega
  · by_cases c : A = m
    · have := s3 c; rw [c] at mo; omega
    · have := (s2 (by omega)).2; omega
set_option maxHeartbeats 1600000 in
theorem rahead_arg (d n : Int) (v : Value) (zs : List Int) (w0 w : World) (S : St w0 w) (h : Sl w v zs) (hlen : zs.length ≤ 1000000) (hr : Hol.right zs = false ∨ d < 0 ∨ n < 0) :
    Calls Tryd.prog 57 #[.int .i64 d, .int .i64 n, v] w fun e w' => e = .returned (.tuple #[.int .i64 0, .int .i64 2]) ∧ St w0 w' := by
  cases hc : Hol.right zs
  · have R := Lib.hid (hc ▸ rright_any v zs w h hlen)
    clear hr hc h hlen
    go_enter Tryd.func57, Tryd.ntmps57
    go_wp2_with (go_at_call 55; refine R.out.mono ?_; rintro e w' ⟨rfl, hq⟩; have S1 := hq.st S; clear hq)
    go_ret2
    exact ⟨rfl, S1⟩
  · have R := Lib.hid (hc ▸ rright_any v zs w h hlen)
    rw [hc] at hr
    have hr' : d < 0 ∨ 0 ≤ d ∧ n < 0 := by rcases hr with h | h | h; · cases h
                                           · exact Or.inl h
                                           · omega
    clear hr hc h hlen
    rcases hr' with c | ⟨c, c'⟩
    all_goals
      go_enter Tryd.func57, Tryd.ntmps57
      go_wp2_with (go_at_call 55; refine R.out.mono ?_; rintro e w' ⟨rfl, hq⟩; have S1 := hq.st S; clear hq)
      go_ret2
      exact ⟨rfl, S1⟩
set_option maxHeartbeats 1600000 in
theorem rahead_long (d n : Int) (v : Value) (zs : List Int) (w0 w : World) (S : St w0 w) (h : Sl w v zs) (hlen : zs.length ≤ 1000000) (hr : Hol.right zs = true) (hn : 0 ≤ n) (hd : 730484 < d) :
    Calls Tryd.prog 57 #[.int .i64 d, .int .i64 n, v] w fun e w' => e = .returned (.tuple #[.int .i64 0, .int .i64 3]) ∧ St w0 w' := by
  have R := Lib.hid (hr ▸ rright_any v zs w h hlen)
  clear hr h hlen
  go_enter Tryd.func57, Tryd.ntmps57
  go_wp2_with (go_at_call 55; refine R.out.mono ?_; rintro e w' ⟨rfl, hq⟩; have S1 := hq.st S; clear hq)
  go_loop [1, 8] (fun s t => t = .int .i64 d) (fun _ _ => 0)
  case atStart => exact rfl
  case round =>
    obtain rfl := hrel
    go_wp2
    go_ret2
    exact ⟨rfl, S1⟩
set_option maxHeartbeats 3200000 in
theorem rahead_ok (d n : Int) (v : Value) (zs : List Int) (w0 w : World) (S : St w0 w) (h : Sl w v zs) (hlen : zs.length ≤ 1000000) (hr : Hol.right zs = true) (hn : 0 ≤ n) (hn2 : n ≤ 9223372036854775807) (h0 : 0 ≤ d) (h1 : d ≤ 730484) (m A : Nat) (hm : d + m = 730485) (hA : Hol.ahead zs d n m = A) (x e : Int) (hit : A < m → x = d + A ∧ e = 0) (miss : A = m → x = 0 ∧ e = 3) :
    Calls Tryd.prog 57 #[.int .i64 d, .int .i64 n, v] w fun r w' => r = .returned (.tuple #[.int .i64 x, .int .i64 e]) ∧ St w0 w' := by
  have R := Lib.hid (hr ▸ rright_any v zs w h hlen)
  have HR := Lib.hid hr
  have hAm : A ≤ m := by rw [← hA]; exact (Hol.ahead_spec zs d n m (Hol.inc_pw zs _ ((Hol.right_iff zs).1 hr).2) hn).1
  have G := Lib.hid (fun k => ahead_go zs d n m A k (Hol.inc_pw zs _ ((Hol.right_iff zs).1 hr).2) hn hA)
  have W : Hid (∀ (w1 : World) (x : Int) (t : Bool), Qt w w1 → 0 ≤ x → x ≤ 730484 → Hol.works zs x = t → Calls Tryd.prog 74 #[.int .i64 x, v] w1 fun e w' => e = .returned (.bool t) ∧ w1 = w') := fun w1 x t q h0 h1 ht => ht ▸ rworks_any x v zs w1 (h.below q.below) hlen h0 h1
  have HIT := Lib.hid hit
  have MISS := Lib.hid miss
  clear hr h hlen hit miss hA
  go_enter Tryd.func57, Tryd.ntmps57
  go_wp2_with (go_at_call 55; refine R.out.mono ?_; rintro e w' ⟨rfl, hq⟩; have HQ := Lib.hid hq; clear hq)
  go_loop [1, 8] (fun s t => ∃ k : Nat, k ≤ A ∧ t = .int .i64 (d + k) ∧ s = .int .i64 (n - (Hol.wb zs (d + k) - Hol.wb zs d))) (fun _ t => (730486 - intOf t).toNat)
  case atStart => exact ⟨0, by omega, by simp, by simp⟩
  case round =>
    obtain ⟨k, hk, rfl, rfl⟩ := hrel
    obtain ⟨y, hy⟩ : ∃ y, y = n - (Hol.wb zs (d + k) - Hol.wb zs d) := ⟨_, rfl⟩
    obtain ⟨z, hz⟩ : ∃ z : Int, z = d + k := ⟨_, rfl⟩
    rw [← hy, ← hz]
    by_cases hlt : k < m
    · obtain ⟨g1, g2, g3, g4, g5⟩ := G.out k hk hlt
      rw [← hz] at g1 g2 g3 hy
      have hz0 : 0 ≤ z ∧ z ≤ 730484 := by omega
      have hy0 : 0 ≤ y ∧ y ≤ 9223372036854775807 := by rw [← hz] at g4 g5; omega
      have NX : Hid (z + 1 = d + ((k + 1 : Nat) : Int)) := by show z + 1 = _; omega
      clear g4 g5
      cases hb : Hol.works zs z
      · have HB := Lib.hid hb
        obtain ⟨q1, q2⟩ := g1 hb
        have N : Hid (y = n - (Hol.wb zs (z + 1) - Hol.wb zs d)) := by show y = _; rw [q2, hy]
        clear hb g1 g2 g3 q2 hy hz
        go_wp2_with (go_at_call 74; refine (W.out _ _ _ HQ.out (by omega) (by omega) HB.out).mono ?_; rintro e w' ⟨rfl, rfl⟩)
        go_round
        case rel => exact ⟨k + 1, by omega, by rw [← NX.out], by rw [← NX.out, ← N.out]⟩
        case measure => simp [intOf]; omega
      · have HB := Lib.hid hb
        by_cases cy : y = 0
        · have e2 := g2 hb (by omega)
          obtain ⟨rfl, rfl⟩ := HIT.out (by omega)
          have X : Hid (z = d + A) := by show z = _; omega
          clear hb g1 g2 g3 hy hz
          go_wp2_with (go_at_call 74; refine (W.out _ _ _ HQ.out (by omega) (by omega) HB.out).mono ?_; rintro e w' ⟨rfl, rfl⟩)
          go_ret2
          exact ⟨ret2i X.out rfl, HQ.out.st S⟩
        · obtain ⟨q1, q2⟩ := g3 hb (by omega)
          have N : Hid (y - 1 = n - (Hol.wb zs (z + 1) - Hol.wb zs d)) := by show y - 1 = _; rw [q2, hy]; omega
          clear hb g1 g2 g3 q2 hy hz
          go_wp2_with (go_at_call 74; refine (W.out _ _ _ HQ.out (by omega) (by omega) HB.out).mono ?_; rintro e w' ⟨rfl, rfl⟩)
          go_round
          case rel => exact ⟨k + 1, by omega, by rw [← NX.out], by rw [← NX.out, ← N.out]⟩
          case measure => simp [intOf]; omega
    · obtain ⟨rfl, rfl⟩ := MISS.out (by omega)
      have hz0 : z = 730485 := by omega
      clear hy hz
      go_wp2
      go_ret2
      exact ⟨rfl, HQ.out.st S⟩
end Go.Proofs.YtcnnfgigpjbcpaaDoor
