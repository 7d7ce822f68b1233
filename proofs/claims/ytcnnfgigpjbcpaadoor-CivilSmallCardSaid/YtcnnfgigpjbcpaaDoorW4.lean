/- Contracts of civil's texts. -/
import Derived.Test.YtcnnfgigpjbcpaaDoorW3
import Derived.Test.YtcnnfgigpjbcpaaDoorShelf
import Derived.Lib.ItoaMem
import Derived.BigQuiet
import Derived.Deep.QuietTactic
namespace Go.Proofs.YtcnnfgigpjbcpaaDoor
open Go.RowKit

namespace Txt
/-- A digit's sign. -/
def c48 (n : Int) : UInt8 := UInt8.ofNat (48 + n.toNat)
theorem c48_mod (u : Nat) : UInt8.ofNat (48 + u % 10) = c48 ((u : Int) % 10) := by unfold c48; congr 2
theorem dec_1 (u : Nat) (h : u < 10) : Lib.decDigits u = [c48 u] := by rw [Lib.decDigits, dif_pos h]; unfold c48; simp
theorem dec_s (u : Nat) (h : ¬ u < 10) : Lib.decDigits u = Lib.decDigits (u / 10) ++ [c48 ((u : Int) % 10)] := by rw [Lib.decDigits, dif_neg h, c48_mod]
theorem itoa_1 (n : Int) (h0 : 0 ≤ n) (h : n < 10) : Lib.itoa n = [c48 n] := by
  obtain ⟨u, rfl⟩ : ∃ u : Nat, n = u := ⟨n.toNat, by omega⟩
  rw [Lib.itoa_nonneg, dec_1 u (by omega)]
theorem itoa_2 (n : Int) (h0 : 10 ≤ n) (h : n < 100) : Lib.itoa n = [c48 (n / 10), c48 (n % 10)] := by
  obtain ⟨u, rfl⟩ : ∃ u : Nat, n = u := ⟨n.toNat, by omega⟩
  rw [Lib.itoa_nonneg, dec_s u (by omega), dec_1 _ (by omega)]
  simp
theorem itoa_4 (n : Int) (h0 : 1000 ≤ n) (h : n < 10000) : Lib.itoa n = [c48 (n / 1000), c48 (n / 100 % 10), c48 (n / 10 % 10), c48 (n % 10)] := by
  obtain ⟨u, rfl⟩ : ∃ u : Nat, n = u := ⟨n.toNat, by omega⟩
  rw [Lib.itoa_nonneg, dec_s u (by omega), dec_s _ (by omega), dec_s _ (by omega), dec_1 _ (by omega)]
  have e1 : (((u / 10 / 10 / 10 : Nat)) : Int) = (u : Int) / 1000 := by omega
  have e2 : (((u / 10 / 10 : Nat)) : Int) = (u : Int) / 100 := by omega
  have e3 : (((u / 10 : Nat)) : Int) = (u : Int) / 10 := by omega
  rw [e1, e2, e3]; rfl
/-- Two digits; four digits. -/
def d2 (n : Int) : List UInt8 := [c48 (n / 10), c48 (n % 10)]
def d4 (n : Int) : List UInt8 := [c48 (n / 1000), c48 (n / 100 % 10), c48 (n / 10 % 10), c48 (n % 10)]
end Txt

theorem itoa_any (n : Int) (l : List UInt8) (w : World) (h0 : 0 ≤ n) (h1 : n < 10000) (hl : Lib.itoa n = l) (G : Gl w) :
    Calls Tryd.prog 75 #[.int .i64 n] w fun e w' => e = .returned (.string ⟨l.toArray⟩) ∧ Below w.heap.size w w' := by
  subst hl
  refine (Tryd.strconv_Itoa n (by omega) (by omega) w G.pw).mono ?_
  rintro e w' ⟨rfl, k, os, rfl⟩
  exact ⟨rfl, below_grown_sl _ _ _ _ (Nat.le_refl _)⟩

theorem ret_str {a b : ByteArray} (h : a = b) : Ending.returned (.string a) = .returned (.string b) := by rw [h]
theorem app (l m : List UInt8) : (⟨l.toArray⟩ : ByteArray) ++ ⟨m.toArray⟩ = ⟨(l ++ m).toArray⟩ := by
  apply ByteArray.ext; simp
theorem app_nil (m : List UInt8) : (⟨#[]⟩ : ByteArray) ++ ⟨m.toArray⟩ = ⟨m.toArray⟩ := app [] m
set_option maxHeartbeats 800000 in
theorem pad2 (n : Int) (w0 w : World) (h0 : 0 ≤ n) (h : n < 100) (S : St w0 w) :
    Calls Tryd.prog 61 #[.int .i64 n, .int .i64 2] w fun e w' => e = .returned (.string ⟨(Txt.d2 n).toArray⟩) ∧ St w0 w' := by
  by_cases c : n < 10
  · have H := Lib.hid (itoa_any n _ w h0 (by omega) (Txt.itoa_1 n h0 c) S.gl)
    go_enter Tryd.func61, Tryd.ntmps61
    go_wp2_with (first | (go_at_call 75; refine H.out.mono ?_; rintro e w' ⟨rfl, hb⟩) | (go_at_call 76; refine (Tryd.strings_Repeat_one _ _).mono ?_; rintro e w' ⟨rfl, rfl⟩))
    go_ret
    refine ⟨ret_str ((app [48] [Txt.c48 n]).trans ?_), S.step (by assumption)⟩
    unfold Txt.d2
    rw [show n / 10 = 0 by omega, show n % 10 = n by omega]
    rfl
  · have H := Lib.hid (itoa_any n _ w h0 (by omega) (Txt.itoa_2 n (by omega) (by omega)) S.gl)
    go_enter Tryd.func61, Tryd.ntmps61
    go_wp2_with (first | (go_at_call 75; refine H.out.mono ?_; rintro e w' ⟨rfl, hb⟩) | (go_at_call 76; refine (Tryd.strings_Repeat_zero _ _).mono ?_; rintro e w' ⟨rfl, rfl⟩))
    go_ret
    exact ⟨ret_str (app_nil (Txt.d2 n)), S.step (by assumption)⟩
set_option maxHeartbeats 800000 in
theorem pad4 (n : Int) (w0 w : World) (h0 : 1000 ≤ n) (h : n < 10000) (S : St w0 w) :
    Calls Tryd.prog 61 #[.int .i64 n, .int .i64 4] w fun e w' => e = .returned (.string ⟨(Txt.d4 n).toArray⟩) ∧ St w0 w' := by
  have H := Lib.hid (itoa_any n _ w (by omega) (by omega) (Txt.itoa_4 n (by omega) (by omega)) S.gl)
  go_enter Tryd.func61, Tryd.ntmps61
  go_wp2_with (first | (go_at_call 75; refine H.out.mono ?_; rintro e w' ⟨rfl, hb⟩) | (go_at_call 76; refine (Tryd.strings_Repeat_zero _ _).mono ?_; rintro e w' ⟨rfl, rfl⟩))
  go_ret
  exact ⟨ret_str (app_nil (Txt.d4 n)), S.step (by assumption)⟩
/-- The text of a date, and of a time. -/
def dtx (y m d : Int) : List UInt8 := Txt.d4 y ++ ([45] ++ (Txt.d2 m ++ ([45] ++ Txt.d2 d)))
def ttx (y m d h i : Int) : List UInt8 := dtx y m d ++ ([32] ++ (Txt.d2 h ++ ([58] ++ Txt.d2 i)))
theorem dtx_len (y m d : Int) : (dtx y m d).length = 10 := rfl
theorem d2_len (n : Int) : (Txt.d2 n).length = 2 := rfl
theorem dtx_app (y m d : Int) : ((((⟨(Txt.d4 y).toArray⟩ : ByteArray) ++ ⟨#[45]⟩) ++ ⟨(Txt.d2 m).toArray⟩) ++ ⟨#[45]⟩) ++ ⟨(Txt.d2 d).toArray⟩ = ⟨(dtx y m d).toArray⟩ := by
  unfold dtx
  rw [show (⟨#[45]⟩ : ByteArray) = ⟨[(45 : UInt8)].toArray⟩ from rfl, app, app, app, app]
  simp [List.append_assoc]
theorem ttx_app (y m d h i : Int) : ((((⟨(dtx y m d).toArray⟩ : ByteArray) ++ ⟨#[32]⟩) ++ ⟨(Txt.d2 h).toArray⟩) ++ ⟨#[58]⟩) ++ ⟨(Txt.d2 i).toArray⟩ = ⟨(ttx y m d h i).toArray⟩ := by
  unfold ttx
  rw [show (⟨#[32]⟩ : ByteArray) = ⟨[(32 : UInt8)].toArray⟩ from rfl, show (⟨#[58]⟩ : ByteArray) = ⟨[(58 : UInt8)].toArray⟩ from rfl, app, app, app, app]
  simp [List.append_assoc]
theorem ret2s {a b : ByteArray} {v : Value} (h : a = b) : Ending.returned (.tuple #[.string a, v]) = .returned (.tuple #[.string b, v]) := by rw [h]
set_option maxHeartbeats 800000 in
theorem text_bad (n : Int) (w : World) (h : n < 0 ∨ 730484 < n) : Calls Tryd.prog 31 #[.int .i64 n] w fun e w' => e = .returned (.tuple #[.string ⟨#[]⟩, .int .i64 (err n 730484)]) ∧ w = w' := by
  have H := Lib.hid (date_bad n w h)
  rcases err_bad h with c | c
  all_goals
    rw [c] at H ⊢
    clear c h
    go_enter Tryd.func31, Tryd.ntmps31
    go_wp2_with (go_at_call 27; refine H.out.mono ?_; rintro e w' ⟨rfl, rfl⟩)
    go_ret2
    exact ⟨rfl, rfl⟩
set_option maxRecDepth 100000 in
set_option maxHeartbeats 800000 in
theorem text_ok {n y m d : Int} (w0 w : World) (hd : Cal.IsDate n y m d) (S : St w0 w) :
    Calls Tryd.prog 31 #[.int .i64 n] w fun e w' => e = .returned (.tuple #[.string ⟨(dtx y m d).toArray⟩, .int .i64 0]) ∧ St w0 w' := by
  have h1 := hd.y1
  have h2 := hd.y2
  have h3 := hd.m1
  have h4 := hd.m2
  have h5 := hd.d1
  have h6 : d ≤ 31 := Int.le_trans hd.d2 (Cal.dim_bd m _ h3 h4).2
  go_enter Tryd.func31, Tryd.ntmps31
  go_wp2_with (first | (go_at_call 27; refine (date_ok _ hd S.gl).mono ?_; rintro e w' ⟨rfl, rfl⟩) | (go_at_call 61; (with_reducible refine (pad4 _ w0 _ (by omega) (by omega) (by assumption)).mono ?_); rintro e w' ⟨rfl, S1⟩) | (go_at_call 61; (with_reducible refine (pad2 _ w0 _ (by omega) (by omega) (by assumption)).mono ?_); rintro e w' ⟨rfl, S1⟩))
  go_ret2
  exact ⟨ret2s (dtx_app y m d), by assumption⟩
set_option maxHeartbeats 800000 in
theorem ttext_bad (n : Int) (w : World) (h : n < 0 ∨ 1051898399 < n) : Calls Tryd.prog 29 #[.int .i64 n] w fun e w' => e = .returned (.tuple #[.string ⟨#[]⟩, .int .i64 (err n 1051898399)]) ∧ w = w' := by
  have H := Lib.hid (split_bad n w h)
  rcases err_bad h with c | c
  all_goals
    rw [c] at H ⊢
    clear c h
    go_enter Tryd.func29, Tryd.ntmps29
    go_wp2_with (go_at_call 30; refine H.out.mono ?_; rintro e w' ⟨rfl, rfl⟩)
    go_ret2
    exact ⟨rfl, rfl⟩
set_option maxRecDepth 100000 in
set_option maxHeartbeats 800000 in
theorem ttext_ok {n y m d : Int} (w0 w : World) (h0 : 0 ≤ n) (h : n ≤ 1051898399) (hd : Cal.IsDate (n / 1440) y m d) (S : St w0 w) :
    Calls Tryd.prog 29 #[.int .i64 n] w fun e w' => e = .returned (.tuple #[.string ⟨(ttx y m d (n % 1440 / 60) (n % 60)).toArray⟩, .int .i64 0]) ∧ St w0 w' := by
  have l1 : (dtx y m d).length ≤ 10 := Nat.le_of_eq (dtx_len y m d)
  have l2 : (Txt.d2 (n % 1440 / 60)).length ≤ 2 := Nat.le_of_eq (d2_len _)
  have l3 : (Txt.d2 (n % 60)).length ≤ 2 := Nat.le_of_eq (d2_len _)
  go_enter Tryd.func29, Tryd.ntmps29
  go_wp2_with (first | (go_at_call 30; refine (split_ok _ _ (by omega) (by omega)).mono ?_; rintro e w' ⟨rfl, rfl⟩) | (go_at_call 31; refine (text_ok w0 _ hd S).mono ?_; rintro e w' ⟨rfl, S1⟩) | (go_at_call 61; (with_reducible refine (pad2 _ w0 _ (by omega) (by omega) (by assumption)).mono ?_); rintro e w' ⟨rfl, S1⟩))
  go_ret2
  exact ⟨ret2s (ttx_app y m d _ _), by assumption⟩
end Go.Proofs.YtcnnfgigpjbcpaaDoor
