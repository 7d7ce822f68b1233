/- The reference's working days, between two days and ahead, and days of the year. -/
import Derived.Test.YtcnnfgigpjbcpaaDoorWk
namespace Go.Proofs.YtcnnfgigpjbcpaaDoor
open Go.RowKit

theorem Qt.below {w w' : World} (h : Qt w w') : Below w.heap.size w w' := by obtain ⟨q, rfl⟩ := h; exact below_drewN (Below.refl _ _) q
set_option maxHeartbeats 800000 in
theorem rworksA_list (d : Int) (v : Value) (zs : List Int) (w0 w : World) (S : St w0 w) (h : Sl w v zs) (hlen : zs.length ≤ 1000000) (hr : Hol.right zs = false) :
    Calls Tryd.prog 54 #[.int .i64 d, v] w fun e w' => e = .returned (.tuple #[.bool false, .int .i64 2]) ∧ St w0 w' := by
  have R := Lib.hid (hr ▸ rright_any v zs w h hlen)
  clear hr h hlen
  go_enter Tryd.func54, Tryd.ntmps54
  go_wp2_with (go_at_call 55; refine R.out.mono ?_; rintro e w' ⟨rfl, hq⟩; have S1 := hq.st S; clear hq)
  go_ret2
  exact ⟨rfl, S1⟩
set_option maxHeartbeats 800000 in
theorem rworksA_bad (d : Int) (v : Value) (zs : List Int) (w0 w : World) (S : St w0 w) (h : Sl w v zs) (hlen : zs.length ≤ 1000000) (hr : Hol.right zs = true) (hd : d < 0 ∨ 730484 < d) :
    Calls Tryd.prog 54 #[.int .i64 d, v] w fun e w' => e = .returned (.tuple #[.bool false, .int .i64 (err d 730484)]) ∧ St w0 w' := by
  have R := Lib.hid (hr ▸ rright_any v zs w h hlen)
  clear hr h hlen
  rcases err_bad hd with c | c
  all_goals
    have c' := Lib.hid c
    rw [c]
    clear c hd
    go_enter Tryd.func54, Tryd.ntmps54
    go_wp2_with (first | (go_at_call 55; refine R.out.mono ?_; rintro e w' ⟨rfl, hq⟩; have S1 := hq.st S; clear hq) | (go_at_call 69; refine (within_eq _ _ _ _ c'.out).mono ?_; rintro e w' ⟨rfl, rfl⟩))
    go_ret2
    exact ⟨rfl, S1⟩
set_option maxHeartbeats 800000 in
theorem rworksA_ok (d : Int) (v : Value) (zs : List Int) (w0 w : World) (S : St w0 w) (h : Sl w v zs) (hlen : zs.length ≤ 1000000) (hr : Hol.right zs = true) (h0 : 0 ≤ d) (h1 : d ≤ 730484) :
    Calls Tryd.prog 54 #[.int .i64 d, v] w fun e w' => e = .returned (.tuple #[.bool (Hol.works zs d), .int .i64 0]) ∧ St w0 w' := by
  have R := Lib.hid (hr ▸ rright_any v zs w h hlen)
  have W : Hid (∀ w1, Qt w w1 → Calls Tryd.prog 74 #[.int .i64 d, v] w1 fun e w' => e = .returned (.bool (Hol.works zs d)) ∧ w1 = w') := fun w1 q => rworks_any d v zs w1 (h.below q.below) hlen h0 h1
  clear hr h hlen
  go_enter Tryd.func54, Tryd.ntmps54
  go_wp2_with (first | (go_at_call 55; refine R.out.mono ?_; rintro e w' ⟨rfl, hq⟩; have HQ := Lib.hid hq; clear hq) | (go_at_call 69; refine (within_eq _ _ _ _ (err_ok (by omega) (by omega))).mono ?_; rintro e w' ⟨rfl, rfl⟩) | (go_at_call 74; refine (W.out _ HQ.out).mono ?_; rintro e w' ⟨rfl, rfl⟩))
  go_ret2
  exact ⟨rfl, HQ.out.st S⟩
set_option maxHeartbeats 1600000 in
theorem rbetween_arg (a b : Int) (v : Value) (zs : List Int) (w0 w : World) (S : St w0 w) (h : Sl w v zs) (hlen : zs.length ≤ 1000000) (hr : Hol.right zs = false ∨ a < 0 ∨ b < a) :
    Calls Tryd.prog 56 #[.int .i64 a, .int .i64 b, v] w fun e w' => e = .returned (.tuple #[.int .i64 0, .int .i64 2]) ∧ St w0 w' := by
  cases hc : Hol.right zs
  · have R := Lib.hid (hc ▸ rright_any v zs w h hlen)
    clear hr hc h hlen
    go_enter Tryd.func56, Tryd.ntmps56
    go_wp2_with (go_at_call 55; refine R.out.mono ?_; rintro e w' ⟨rfl, hq⟩; have S1 := hq.st S; clear hq)
    go_ret2
    exact ⟨rfl, S1⟩
  · have R := Lib.hid (hc ▸ rright_any v zs w h hlen)
    rw [hc] at hr
    have hr' : a < 0 ∨ 0 ≤ a ∧ b < a := by rcases hr with h | h | h; · cases h
                                           · exact Or.inl h
                                           · omega
    clear hr hc h hlen
    rcases hr' with c | ⟨c, c'⟩
    all_goals
      go_enter Tryd.func56, Tryd.ntmps56
      go_wp2_with (go_at_call 55; refine R.out.mono ?_; rintro e w' ⟨rfl, hq⟩; have S1 := hq.st S; clear hq)
      go_ret2
      exact ⟨rfl, S1⟩
set_option maxHeartbeats 800000 in
theorem rbetween_long (a b : Int) (v : Value) (zs : List Int) (w0 w : World) (S : St w0 w) (h : Sl w v zs) (hlen : zs.length ≤ 1000000) (hr : Hol.right zs = true) (h0 : 0 ≤ a) (h1 : a ≤ b) (h2 : 730484 < b) :
    Calls Tryd.prog 56 #[.int .i64 a, .int .i64 b, v] w fun e w' => e = .returned (.tuple #[.int .i64 0, .int .i64 3]) ∧ St w0 w' := by
  have R := Lib.hid (hr ▸ rright_any v zs w h hlen)
  clear hr h hlen
  go_enter Tryd.func56, Tryd.ntmps56
  go_wp2_with (go_at_call 55; refine R.out.mono ?_; rintro e w' ⟨rfl, hq⟩; have S1 := hq.st S; clear hq)
  go_ret2
  exact ⟨rfl, S1⟩
set_option maxHeartbeats 1600000 in
theorem rbetween_ok (a b : Int) (v : Value) (zs : List Int) (w0 w : World) (S : St w0 w) (h : Sl w v zs) (hlen : zs.length ≤ 1000000) (hr : Hol.right zs = true) (h0 : 0 ≤ a) (h1 : a ≤ b) (h2 : b ≤ 730484) :
    Calls Tryd.prog 56 #[.int .i64 a, .int .i64 b, v] w fun e w' => e = .returned (.tuple #[.int .i64 (Hol.wb zs b - Hol.wb zs a), .int .i64 0]) ∧ St w0 w' := by
  have R := Lib.hid (hr ▸ rright_any v zs w h hlen)
  have HR := Lib.hid hr
  have HP := Lib.hid (Hol.inc_pw zs _ ((Hol.right_iff zs).1 hr).2)
  have W : Hid (∀ (w1 : World) (x : Int) (t : Bool), Qt w w1 → 0 ≤ x → x ≤ 730484 → Hol.works zs x = t → Calls Tryd.prog 74 #[.int .i64 x, v] w1 fun e w' => e = .returned (.bool t) ∧ w1 = w') := fun w1 x t q h0 h1 ht => ht ▸ rworks_any x v zs w1 (h.below q.below) hlen h0 h1
  have b1 := wb_bd hr a h0 (by omega)
  clear hr h hlen
  go_enter Tryd.func56, Tryd.ntmps56
  go_wp2_with (go_at_call 55; refine R.out.mono ?_; rintro e w' ⟨rfl, hq⟩; have HQ := Lib.hid hq; clear hq)
  go_loop [8, 9] (fun s t => ∃ k : Int, a ≤ k ∧ k ≤ b ∧ t = .int .i64 k ∧ s = .int .i64 (Hol.wb zs k - Hol.wb zs a)) (fun _ t => (b - intOf t).toNat)
  case atStart => exact ⟨a, by omega, by omega, rfl, by rw [Int.sub_self]⟩
  case round =>
    obtain ⟨k, hk1, hk2, rfl, rfl⟩ := hrel
    have b2 := wb_bd HR.out k (by omega) (by omega)
    have s := Hol.wb_succ zs k HP.out
    obtain ⟨x, hx⟩ : ∃ x, x = Hol.wb zs k - Hol.wb zs a := ⟨_, rfl⟩
    rw [← hx]
    have hx0 : -730485 ≤ x ∧ x ≤ 730485 := by omega
    by_cases hlt : k < b
    · cases hb : Hol.works zs k
      · have HB := Lib.hid hb
        rw [hb] at s
        have N : Hid (x = Hol.wb zs (k + 1) - Hol.wb zs a) := by show x = _; rw [s, hx]; simp
        clear hb s hx b2
        go_wp2_with (go_at_call 74; refine (W.out _ _ _ HQ.out (by omega) (by omega) HB.out).mono ?_; rintro e w' ⟨rfl, rfl⟩)
        go_round
        case rel => exact ⟨k + 1, by omega, by omega, by go_num, by rw [N.out]⟩
        case measure => simp [intOf]; omega
      · have HB := Lib.hid hb
        rw [hb] at s
        have N : Hid (x + 1 = Hol.wb zs (k + 1) - Hol.wb zs a) := by show x + 1 = _; rw [s, hx]; simp; omega
        clear hb s hx b2
        go_wp2_with (go_at_call 74; refine (W.out _ _ _ HQ.out (by omega) (by omega) HB.out).mono ?_; rintro e w' ⟨rfl, rfl⟩)
        go_round
        case rel => exact ⟨k + 1, by omega, by omega, by go_num, by rw [← N.out]⟩
        case measure => simp [intOf]; omega
    · obtain rfl : k = b := by omega
      have X := Lib.hid hx
      clear hx s b2
      go_wp2
      go_ret2
      exact ⟨ret2i X.out rfl, HQ.out.st S⟩
end Go.Proofs.YtcnnfgigpjbcpaaDoor
