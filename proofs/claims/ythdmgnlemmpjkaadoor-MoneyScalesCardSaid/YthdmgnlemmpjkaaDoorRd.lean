/- Contracts of money's Read. -/
import Derived.Test.YthdmgnlemmpjkaaDoorGl
namespace Go.Proofs.YthdmgnlemmpjkaaDoor
open Go.RowKit

set_option maxRecDepth 100000 in
set_option maxHeartbeats 800000 in
theorem read_yes (c : Int) (w0 w : World) (h : Mny.rt c = true) (S : St w0 w) :
    Calls Tryd.prog 22 #[.string ⟨(Mtx.txt c).toArray⟩] w fun e w' => e = .returned (.tuple #[.int .i64 c, .int .i64 0]) ∧ St w0 w' := by
  have b := (Mny.rt_iff c).1 h
  have hl := Mtx.txt_len c b.1 b.2
  have C := Lib.hid (fun w G => cut_any (Mtx.txt c) _ _ _ w (by omega) (Mtx.cut_txt c) G)
  have hl2 : (Mtx.pre c ++ Mtx.suf c).length ≤ 18 := by
    have := Mtx.cut_len (Mtx.txt c) [46]; rw [Mtx.cut_txt] at this; simp only at this; omega
  have A := Lib.hid (fun w => atoi_yes (Mtx.pre c ++ Mtx.suf c) c w hl2 (Mtx.atoi_txt c))
  have hp : (Mtx.pre c).length ≤ 18 := by rw [List.length_append] at hl2; omega
  have hs : (Mtx.suf c).length ≤ 18 := by rw [List.length_append] at hl2; omega
  have AP := app (Mtx.pre c) (Mtx.suf c)
  have T := Lib.hid (fun w S => text_ok c w0 w h S)
  clear b h hl2
  go_enter Tryd.func22, Tryd.ntmps22
  go_wp2_with (first | (go_at_call 36; refine (C.out _ S.gl).mono ?_; rintro e w1 ⟨rfl, q1⟩; have S1 := q1.st S; clear q1)  | (go_at_call 37; refine (A.out _).mono ?_; rintro e w2 ⟨rfl, b2⟩; have S2 := S1.step b2)  | (go_at_call 21; refine (T.out _ S2).mono ?_; rintro e w3 ⟨rfl, S3⟩))
  go_ret2
  exact ⟨rfl, S3⟩
set_option maxRecDepth 100000 in
set_option maxHeartbeats 800000 in
theorem read_no1 (l a b : List UInt8) (f : Bool) (n : Int) (w0 w : World) (hl : l.length ≤ 18) (hcut : Lib.cut l [46] = (a, b, f)) (hl2 : (a ++ b).length ≤ 18) (ha : Lib.atoi (a ++ b) = some n) (hr : Mny.rt n = true) (hne : Mtx.txt n ≠ l) (S : St w0 w) :
    Calls Tryd.prog 22 #[.string ⟨l.toArray⟩] w fun e w' => e = .returned (.tuple #[.int .i64 0, .int .i64 20]) ∧ St w0 w' := by
  have C := Lib.hid (fun w G => cut_any l _ _ _ w (by omega) hcut G)
  have A := Lib.hid (fun w => atoi_yes (a ++ b) n w hl2 ha)
  have hp : a.length ≤ 18 := by rw [List.length_append] at hl2; omega
  have hs : b.length ≤ 18 := by rw [List.length_append] at hl2; omega
  have AP := app a b
  have T := Lib.hid (fun w S => text_ok n w0 w hr S)
  have hb : (Mtx.txt n == l) = false := by simpa using hne
  clear hl2 hcut ha hne
  go_enter Tryd.func22, Tryd.ntmps22
  go_wp2_with (first | (go_at_call 36; refine (C.out _ S.gl).mono ?_; rintro e w1 ⟨rfl, q1⟩; have S1 := q1.st S; clear q1)  | (go_at_call 37; refine (A.out _).mono ?_; rintro e w2 ⟨rfl, b2⟩; have S2 := S1.step b2)  | (go_at_call 21; refine (T.out _ S2).mono ?_; rintro e w3 ⟨rfl, S3⟩))
  go_ret2
  exact ⟨rfl, S3⟩
set_option maxRecDepth 100000 in
set_option maxHeartbeats 800000 in
theorem read_no2 (l a b : List UInt8) (f : Bool) (n : Int) (w0 w : World) (hl : l.length ≤ 18) (hcut : Lib.cut l [46] = (a, b, f)) (hl2 : (a ++ b).length ≤ 18) (ha : Lib.atoi (a ++ b) = some n) (hr : Mny.rt n = false) (hne : l ≠ []) (S : St w0 w) :
    Calls Tryd.prog 22 #[.string ⟨l.toArray⟩] w fun e w' => e = .returned (.tuple #[.int .i64 0, .int .i64 20]) ∧ St w0 w' := by
  have C := Lib.hid (fun w G => cut_any l _ _ _ w (by omega) hcut G)
  have A := Lib.hid (fun w => atoi_yes (a ++ b) n w hl2 ha)
  have hp : a.length ≤ 18 := by rw [List.length_append] at hl2; omega
  have hs : b.length ≤ 18 := by rw [List.length_append] at hl2; omega
  have AP := app a b
  have T := Lib.hid (fun w => text_no n w hr)
  obtain ⟨x, m, rfl⟩ : ∃ x m, l = x :: m := by cases l with
    | nil => exact absurd rfl hne
    | cons x m => exact ⟨x, m, rfl⟩
  have hb : (([] : List UInt8) == (x :: m)) = false := rfl
  have hm : m.length + 1 ≤ 18 := hl
  clear hl2 hcut ha hne
  go_enter Tryd.func22, Tryd.ntmps22
  go_wp2_with (first | (go_at_call 36; refine (C.out _ S.gl).mono ?_; rintro e w1 ⟨rfl, q1⟩; have S1 := q1.st S; clear q1)  | (go_at_call 37; refine (A.out _).mono ?_; rintro e w2 ⟨rfl, b2⟩; have S2 := S1.step b2)  | (go_at_call 21; refine (T.out _).mono ?_; rintro e w3 ⟨rfl, rfl⟩))
  go_ret2
  exact ⟨rfl, S2⟩
set_option maxRecDepth 100000 in
set_option maxHeartbeats 800000 in
theorem read_no3 (l a b : List UInt8) (f : Bool) (w0 w : World) (hl : l.length ≤ 18) (hcut : Lib.cut l [46] = (a, b, f)) (hl2 : (a ++ b).length ≤ 18) (ha : Lib.atoi (a ++ b) = none) (S : St w0 w) :
    Calls Tryd.prog 22 #[.string ⟨l.toArray⟩] w fun e w' => e = .returned (.tuple #[.int .i64 0, .int .i64 20]) ∧ St w0 w' := by
  have C := Lib.hid (fun w G => cut_any l _ _ _ w (by omega) hcut G)
  have A := Lib.hid (fun w G => atoi_no (a ++ b) w hl2 ha G)
  have hp : a.length ≤ 18 := by rw [List.length_append] at hl2; omega
  have hs : b.length ≤ 18 := by rw [List.length_append] at hl2; omega
  have AP := app a b
  clear hl2 hcut ha
  go_enter Tryd.func22, Tryd.ntmps22
  go_wp2_with (first | (go_at_call 36; refine (C.out _ S.gl).mono ?_; rintro e w1 ⟨rfl, q1⟩; have S1 := q1.st S; clear q1)  | (go_at_call 37; refine (A.out _ S1.gl).mono ?_; rintro e w2 ⟨N, rfl, b2⟩; have S2 := S1.step b2))
  go_ret2
  exact ⟨rfl, S2⟩
set_option maxRecDepth 100000 in
set_option maxHeartbeats 800000 in
theorem read_no4 (s : ByteArray) (w : World) (hl : 18 < s.size) :
    Calls Tryd.prog 22 #[.string s] w fun e w' => e = .returned (.tuple #[.int .i64 0, .int .i64 20]) ∧ w = w' := by
  go_enter Tryd.func22, Tryd.ntmps22
  go_wp2_with fail
  go_ret2
  exact ⟨rfl, rfl⟩
theorem read_no (s : ByteArray) (w0 w : World) (h : ∀ c, Mny.rt c = true → s.data.toList ≠ Mtx.txt c) (S : St w0 w) :
    Calls Tryd.prog 22 #[.string s] w fun e w' => e = .returned (.tuple #[.int .i64 0, .int .i64 20]) ∧ St w0 w' := by
  by_cases hs : 18 < s.size
  · refine (read_no4 s w hs).mono ?_
    rintro e w' ⟨rfl, rfl⟩
    exact ⟨rfl, S⟩
  · obtain ⟨l, hl⟩ : ∃ l, l = s.data.toList := ⟨_, rfl⟩
    have es : s = ⟨l.toArray⟩ := by subst hl; rfl
    have hlen : l.length ≤ 18 := by subst hl; simp; exact Nat.le_of_not_lt hs
    rw [← hl] at h
    subst es
    obtain ⟨a, b, f, hc⟩ : ∃ a b f, Lib.cut l [46] = (a, b, f) := ⟨_, _, _, rfl⟩
    have hl2 : (a ++ b).length ≤ 18 := by
      have := Mtx.cut_len l [46]; rw [hc] at this; simp only at this; omega
    cases ha : Lib.atoi (a ++ b) with
    | none => exact read_no3 l a b f w0 w hlen hc hl2 ha S
    | some n =>
      cases hr : Mny.rt n
      · refine read_no2 l a b f n w0 w hlen hc hl2 ha hr ?_ S
        rintro rfl
        have : Lib.cut [] [46] = ([], [], false) := by decide
        rw [this] at hc
        obtain ⟨rfl, rfl, rfl⟩ : a = [] ∧ b = [] ∧ f = false := by cases hc; exact ⟨rfl, rfl, rfl⟩
        cases ha
      · exact read_no1 l a b f n w0 w hlen hc hl2 ha hr (fun e => h n hr e.symm) S
end Go.Proofs.YthdmgnlemmpjkaaDoor
