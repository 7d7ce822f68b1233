/- Contracts of the reference's weekdays, times and texts. -/
import Derived.Test.YtcnnfgigpjbcpaaDoorR2
namespace Go.Proofs.YtcnnfgigpjbcpaaDoor
open Go.RowKit

set_option maxHeartbeats 400000 in
theorem rweekday_bad (n : Int) (w : World) (h : n < 0 ∨ 730484 < n) : Calls Tryd.prog 46 #[.int .i64 n] w fun e w' => e = .returned (.tuple #[.int .i64 0, .int .i64 (err n 730484)]) ∧ w = w' := by
  rcases err_bad h with c | c
  all_goals
    rw [c]
    have c' := Lib.hid c
    clear c h
    go_enter Tryd.func46, Tryd.ntmps46
    go_wp2_with (go_at_call 69; refine (within_eq _ _ _ _ c'.out).mono ?_; rintro e w' ⟨rfl, rfl⟩)
    go_ret2
    exact ⟨rfl, rfl⟩
set_option maxHeartbeats 400000 in
theorem rweekday_ok (n : Int) (w : World) (h0 : 0 ≤ n) (h : n ≤ 730484) : Calls Tryd.prog 46 #[.int .i64 n] w fun e w' => e = .returned (.tuple #[.int .i64 (n % 7), .int .i64 0]) ∧ w = w' := by
  go_enter Tryd.func46, Tryd.ntmps46
  go_wp2_with (go_at_call 69; refine (within_eq _ _ _ _ (err_ok (by omega) (by omega))).mono ?_; rintro e w' ⟨rfl, rfl⟩)
  go_ret2
  exact ⟨rfl, rfl⟩
/-- What Time answers. -/
def tmR (n m : Int) : Int := if m < 0 ∨ 1440 ≤ m ∨ n < 0 ∨ 730484 < n then 0 else n * 1440 + m
def tmE (n m : Int) : Int := if m < 0 ∨ 1440 ≤ m then 2 else err n 730484
set_option maxHeartbeats 400000 in
theorem time_any (n m : Int) (w : World) : Calls Tryd.prog 39 #[.int .i64 n, .int .i64 m] w fun e w' => e = .returned (.tuple #[.int .i64 (tmR n m), .int .i64 (tmE n m)]) ∧ w = w' := by
  unfold tmR tmE
  by_cases c : m < 0 ∨ 1440 ≤ m
  · rw [if_pos (by omega), if_pos c]; exact time_arg n m w c
  · rw [if_neg c]
    by_cases c2 : n < 0 ∨ 730484 < n
    · rw [if_pos (by omega)]; exact time_bad n m w (by omega) (by omega) c2
    · rw [if_neg (by omega), err_ok (by omega) (by omega)]; exact time_ok n m w (by omega) (by omega) (by omega) (by omega)
theorem tmv (n m : Int) : (m < 0 ∨ 1440 ≤ m) ∧ tmR n m = 0 ∧ tmE n m = 2 ∨ (0 ≤ m ∧ m < 1440) ∧ n < 0 ∧ tmR n m = 0 ∧ tmE n m = 2 ∨ (0 ≤ m ∧ m < 1440) ∧ 0 ≤ n ∧ 730484 < n ∧ tmR n m = 0 ∧ tmE n m = 3 ∨ (0 ≤ m ∧ m < 1440) ∧ 0 ≤ n ∧ n ≤ 730484 ∧ tmR n m = n * 1440 + m ∧ tmE n m = 0 := by
  unfold tmR tmE
  by_cases c : m < 0 ∨ 1440 ≤ m
  · rw [if_pos (by omega), if_pos c]; omega
  · rw [if_neg c]
    rcases err_cases n 730484 with e | e | e
    · rw [e.2, if_pos (by omega)]; omega
    · rw [e.2.2, if_pos (by omega)]; omega
    · rw [e.2.2, if_neg (by omega)]; omega
set_option maxHeartbeats 800000 in
theorem rtime_any (n m : Int) (w : World) : Calls Tryd.prog 48 #[.int .i64 n, .int .i64 m] w fun e w' => e = .returned (.tuple #[.int .i64 (tmR n m), .int .i64 (tmE n m)]) ∧ w = w' := by
  rcases tmv n m with ⟨c, e1, e2⟩ | ⟨⟨c, c1⟩, c2, e1, e2⟩ | ⟨⟨c, c1⟩, c2, c3, e1, e2⟩ | ⟨⟨c, c1⟩, c2, c3, e1, e2⟩
  · rw [e1, e2]
    clear e1 e2
    by_cases c2 : n < 0
    · rcases c with c | c
      all_goals
        go_enter Tryd.func48, Tryd.ntmps48
        go_wp2
        go_ret2
        exact ⟨rfl, rfl⟩
    · rcases c with c | c
      all_goals
        go_enter Tryd.func48, Tryd.ntmps48
        go_wp2
        go_ret2
        exact ⟨rfl, rfl⟩
  all_goals
    rw [e1, e2]
    clear e1 e2
    go_enter Tryd.func48, Tryd.ntmps48
    go_wp2
    go_ret2
    first | exact ⟨rfl, rfl⟩ | exact ⟨ret2i (by omega) rfl, rfl⟩
set_option maxHeartbeats 400000 in
theorem rsplit_bad (n : Int) (w : World) (h : n < 0 ∨ 1051898399 < n) : Calls Tryd.prog 71 #[.int .i64 n] w fun e w' => e = .returned (.tuple #[.int .i64 0, .int .i64 0, .int .i64 (err n 1051898399)]) ∧ w = w' := by
  rcases err_bad h with c | c
  all_goals
    rw [c]
    have c' := Lib.hid c
    clear c h
    go_enter Tryd.func71, Tryd.ntmps71
    go_wp2_with (go_at_call 69; refine (within_eq _ _ _ _ c'.out).mono ?_; rintro e w' ⟨rfl, rfl⟩)
    go_ret3
    exact ⟨rfl, rfl⟩
set_option maxHeartbeats 400000 in
theorem rsplit_ok (n : Int) (w : World) (h0 : 0 ≤ n) (h : n ≤ 1051898399) : Calls Tryd.prog 71 #[.int .i64 n] w fun e w' => e = .returned (.tuple #[.int .i64 (n / 1440), .int .i64 (n % 1440), .int .i64 0]) ∧ w = w' := by
  go_enter Tryd.func71, Tryd.ntmps71
  go_wp2_with (go_at_call 69; refine (within_eq _ _ _ _ (err_ok (by omega) (by omega))).mono ?_; rintro e w' ⟨rfl, rfl⟩)
  go_ret3
  exact ⟨rfl, rfl⟩
theorem conv1 (W : World) (x : Int) (c : UInt8) (hx : (c.toNat : Int) = x) :
    (convert 37 9 (.slice (some ⟨W.heap.size, 0, none⟩) 1 1)).run Tryd.prog (W.alloc (.cells #[.int .u8 x] 5)) = .ok (.string ⟨#[c]⟩) (W.alloc (.cells #[.int .u8 x] 5)) :=
  run_convert_bytes_back (W.alloc (.cells #[.int .u8 x] 5)) 37 9 5 ⟨W.heap.size, 0, none⟩ 1 [c] Tryd.underlying37 Tryd.underlying5 Tryd.underlying9 (fun j hj => by
    have : j = 0 := by simp at hj; omega
    subst this
    subst hx
    exact cell_new_sl W _ _)
theorem conv1g (W : World) (g : Nat) (hg : g = W.heap.size) (x : Int) (c : UInt8) (hx : (c.toNat : Int) = x) :
    (convert 37 9 (.slice (some ⟨g, 0, none⟩) 1 1)).run Tryd.prog (W.alloc (.cells #[.int .u8 x] 5)) = .ok (.string ⟨#[c]⟩) (W.alloc (.cells #[.int .u8 x] 5)) := by
  subst hg; exact conv1 W x c hx
theorem c48_u8 (n : Int) (h0 : 0 ≤ n) (h : n < 10) : ((Txt.c48 n).toNat : Int) = 48 + n := Txt.c48_nat n h0 h
set_option maxRecDepth 100000 in
set_option maxHeartbeats 1600000 in
theorem rdigits2 (n : Int) (w0 w : World) (h0 : 0 ≤ n) (h : n < 100) (S : St w0 w) :
    Calls Tryd.prog 70 #[.int .i64 n, .int .i64 2] w fun e w' => e = .returned (.string ⟨(Txt.d2 n).toArray⟩) ∧ St w0 w' := by
  have f1 := conv1g w _ rfl (48 + n % 10) _ (c48_u8 (n % 10) (by omega) (by omega))
  have f2 := fun o => conv1g (w.alloc o) (w.heap.size + 1) (World.size_alloc _ _).symm (48 + n / 10 % 10) _ (c48_u8 (n / 10 % 10) (by omega) (by omega))
  go_enter Tryd.func70, Tryd.ntmps70
  go_wp2
  go_rounds 3
  go_ret
  refine ⟨ret_str ?_, S.step (by go_grown)⟩
  show (⟨[Txt.c48 (n / 10 % 10)].toArray⟩ : ByteArray) ++ (⟨[Txt.c48 (n % 10)].toArray⟩ ++ ⟨([] : List UInt8).toArray⟩) = _
  rw [app, app]
  unfold Txt.d2
  rw [show n / 10 % 10 = n / 10 by omega]
  rfl
set_option maxRecDepth 100000 in
set_option maxHeartbeats 1600000 in
theorem rdigits4 (n : Int) (w0 w : World) (h0 : 0 ≤ n) (h : n < 10000) (S : St w0 w) :
    Calls Tryd.prog 70 #[.int .i64 n, .int .i64 4] w fun e w' => e = .returned (.string ⟨(Txt.d4 n).toArray⟩) ∧ St w0 w' := by
  have f1 := conv1g w _ rfl (48 + n % 10) _ (c48_u8 (n % 10) (by omega) (by omega))
  have f2 := fun o => conv1g (w.alloc o) (w.heap.size + 1) (World.size_alloc _ _).symm (48 + n / 10 % 10) _ (c48_u8 (n / 10 % 10) (by omega) (by omega))
  have f3 := fun o o' => conv1g ((w.alloc o).alloc o') (w.heap.size + 1 + 1) (by rw [World.size_alloc, World.size_alloc]) (48 + n / 10 / 10 % 10) _ (c48_u8 (n / 10 / 10 % 10) (by omega) (by omega))
  have f4 := fun o o' o'' => conv1g (((w.alloc o).alloc o').alloc o'') (w.heap.size + 1 + 1 + 1) (by rw [World.size_alloc, World.size_alloc, World.size_alloc]) (48 + n / 10 / 10 / 10 % 10) _ (c48_u8 (n / 10 / 10 / 10 % 10) (by omega) (by omega))
  go_enter Tryd.func70, Tryd.ntmps70
  go_wp2
  go_rounds 5
  go_ret
  refine ⟨ret_str ?_, S.step (by go_grown)⟩
  show (⟨[Txt.c48 (n / 10 / 10 / 10 % 10)].toArray⟩ : ByteArray) ++ (⟨[Txt.c48 (n / 10 / 10 % 10)].toArray⟩ ++ (⟨[Txt.c48 (n / 10 % 10)].toArray⟩ ++ (⟨[Txt.c48 (n % 10)].toArray⟩ ++ ⟨([] : List UInt8).toArray⟩))) = _
  rw [app, app, app, app]
  unfold Txt.d4
  rw [show n / 10 / 10 / 10 % 10 = n / 1000 by omega, show n / 10 / 10 % 10 = n / 100 % 10 by omega]
  rfl
set_option maxHeartbeats 800000 in
theorem rtext_bad (n : Int) (w : World) (h : n < 0 ∨ 730484 < n) : Calls Tryd.prog 47 #[.int .i64 n] w fun e w' => e = .returned (.tuple #[.string ⟨#[]⟩, .int .i64 (err n 730484)]) ∧ w = w' := by
  have H := Lib.hid (rdate_bad n w h)
  rcases err_bad h with c | c
  all_goals
    rw [c] at H ⊢
    clear c h
    go_enter Tryd.func47, Tryd.ntmps47
    go_wp2_with (go_at_call 45; refine H.out.mono ?_; rintro e w' ⟨rfl, rfl⟩)
    go_ret2
    exact ⟨rfl, rfl⟩
set_option maxRecDepth 100000 in
set_option maxHeartbeats 800000 in
theorem rtext_ok {n y m d : Int} (w0 w : World) (hd : Cal.IsDate n y m d) (S : St w0 w) :
    Calls Tryd.prog 47 #[.int .i64 n] w fun e w' => e = .returned (.tuple #[.string ⟨(dtx y m d).toArray⟩, .int .i64 0]) ∧ St w0 w' := by
  have h1 := hd.y1
  have h2 := hd.y2
  have h3 := hd.m1
  have h4 := hd.m2
  have h5 := hd.d1
  have h6 : d ≤ 31 := Int.le_trans hd.d2 (Cal.dim_bd m _ h3 h4).2
  go_enter Tryd.func47, Tryd.ntmps47
  go_wp2_with (first | (go_at_call 45; refine (rdate_ok _ hd).mono ?_; rintro e w' ⟨rfl, rfl⟩) | (go_at_call 70; (with_reducible refine (rdigits4 _ w0 _ (by omega) (by omega) (by assumption)).mono ?_); rintro e w' ⟨rfl, S1⟩) | (go_at_call 70; (with_reducible refine (rdigits2 _ w0 _ (by omega) (by omega) (by assumption)).mono ?_); rintro e w' ⟨rfl, S1⟩))
  go_ret2
  exact ⟨ret2s (dtx_app y m d), by assumption⟩
set_option maxHeartbeats 800000 in
theorem rttext_bad (n : Int) (w : World) (h : n < 0 ∨ 1051898399 < n) : Calls Tryd.prog 72 #[.int .i64 n] w fun e w' => e = .returned (.tuple #[.string ⟨#[]⟩, .int .i64 (err n 1051898399)]) ∧ w = w' := by
  have H := Lib.hid (rsplit_bad n w h)
  rcases err_bad h with c | c
  all_goals
    rw [c] at H ⊢
    clear c h
    go_enter Tryd.func72, Tryd.ntmps72
    go_wp2_with (go_at_call 71; refine H.out.mono ?_; rintro e w' ⟨rfl, rfl⟩)
    go_ret2
    exact ⟨rfl, rfl⟩
set_option maxRecDepth 100000 in
set_option maxHeartbeats 800000 in
theorem rttext_ok {n y m d : Int} (w0 w : World) (h0 : 0 ≤ n) (h : n ≤ 1051898399) (hd : Cal.IsDate (n / 1440) y m d) (S : St w0 w) :
    Calls Tryd.prog 72 #[.int .i64 n] w fun e w' => e = .returned (.tuple #[.string ⟨(ttx y m d (n % 1440 / 60) (n % 60)).toArray⟩, .int .i64 0]) ∧ St w0 w' := by
  have l1 : (dtx y m d).length ≤ 10 := Nat.le_of_eq (dtx_len y m d)
  have l2 : (Txt.d2 (n % 1440 / 60)).length ≤ 2 := Nat.le_of_eq (d2_len _)
  have l3 : (Txt.d2 (n % 60)).length ≤ 2 := Nat.le_of_eq (d2_len _)
  go_enter Tryd.func72, Tryd.ntmps72
  go_wp2_with (first | (go_at_call 71; refine (rsplit_ok _ _ (by omega) (by omega)).mono ?_; rintro e w' ⟨rfl, rfl⟩) | (go_at_call 47; refine (rtext_ok w0 _ hd S).mono ?_; rintro e w' ⟨rfl, S1⟩) | (go_at_call 70; (with_reducible refine (rdigits2 _ w0 _ (by omega) (by omega) (by assumption)).mono ?_); rintro e w' ⟨rfl, S1⟩))
  go_ret2
  exact ⟨ret2s (ttx_app y m d _ _), by assumption⟩
end Go.Proofs.YtcnnfgigpjbcpaaDoor
