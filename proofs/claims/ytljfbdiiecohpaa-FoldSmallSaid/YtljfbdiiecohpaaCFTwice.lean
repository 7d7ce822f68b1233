/- FoldTwice's walk. -/
import Derived.Test.YtljfbdiiecohpaaFp
namespace Go.Proofs.Ytljfbdiiecohpaa
open Go.RowKit Go.Lib

theorem plainl_any (l : Fo.Bs) (w : World) (hl : l.length ≤ 1000000) : Calls Try.prog 14 #[.string ⟨l.toArray⟩] w fun e w' => e = .returned (.bool (Fo.pl true l)) ∧ Below w.heap.size w w' :=
  plain_any ⟨l.toArray⟩ w (by show l.toArray.size ≤ _; rw [List.size_toArray]; exact hl)
theorem str_is (s : ByteArray) : s = ⟨s.data.toList.toArray⟩ := by
  obtain ⟨d⟩ := s
  simp
set_option maxRecDepth 100000 in
set_option maxHeartbeats 3200000 in
theorem twice_any (l : Fo.Bs) (w : World) (hl : l.length ≤ 9223372036854775807) : Calls Try.prog 4 #[.string ⟨l.toArray⟩] w fun e w' => e = .returned (.bool true) ∧ Below w.heap.size w w' := by
  have AW := Lib.hid (awake5_any w)
  by_cases h2 : l.length ≤ 2000
  · have F1 := Lib.hid (fun w => foldl_any l w (by omega))
    have fl := Fo.fold_len l
    obtain ⟨t, ht⟩ : ∃ t, t = Fo.fold l := ⟨_, rfl⟩
    have F2 := Lib.hid (fun w => foldl_any t w (by rw [ht]; omega))
    have P1 := Lib.hid (fun w => plainl_any t w (by rw [ht]; omega))
    have R1 := Lib.hid (fun w => right_any t w (by rw [ht]; omega))
    have P2 := Lib.hid (fun w => plainl_any l w (by omega))
    have R2 := Lib.hid (fun w => right_any l w (by omega))
    have e1 : Fo.fold t = t := by rw [ht]; exact Fo.fold_fold l
    have e2 : Fo.pl true t = true := by rw [ht]; exact Fo.plain_fold l
    have e3 : (Fo.fold l == l) = Fo.pl true l := by rw [Bool.eq_iff_iff, beq_iff_eq]; exact (Fo.plain_iff l).symm
    rw [e1] at F2 R1
    rw [beq_self_eq_true] at R1
    rw [e2] at P1
    rw [e3] at R2
    rw [← ht] at F1 fl
    obtain ⟨q, hq⟩ : ∃ q, q = Fo.pl true l := ⟨_, rfl⟩
    rw [← hq] at R2 P2
    clear e1 e2 e3 ht hq
    go_enter Try.func4, Try.ntmps4
    go_wp2_with (first
      | (go_at_call 12; with_reducible refine AW.out.mono ?_; rintro e w2 ⟨rfl, b2⟩; have B := Lib.hid b2; clear b2)
      | (go_at_call 13; with_reducible refine (F1.out _).mono ?_; rintro e w2 ⟨rfl, b2⟩; have B := Lib.hid (B.out.trans (b2.mono B.out.size)); clear b2 F1)
      | (go_at_call 13; with_reducible refine (F2.out _).mono ?_; rintro e w2 ⟨rfl, b2⟩; have B := Lib.hid (B.out.trans (b2.mono B.out.size)); clear b2)
      | (go_at_call 14; with_reducible refine (P1.out _).mono ?_; rintro e w2 ⟨rfl, b2⟩; have B := Lib.hid (B.out.trans (b2.mono B.out.size)); clear b2 P1)
      | (go_at_call 14; with_reducible refine (P2.out _).mono ?_; rintro e w2 ⟨rfl, b2⟩; have B := Lib.hid (B.out.trans (b2.mono B.out.size)); clear b2)
      | (go_at_call 15; with_reducible refine (R1.out _).mono ?_; rintro e w2 ⟨rfl, b2⟩; have B := Lib.hid (B.out.trans (b2.mono B.out.size)); clear b2 R1)
      | (go_at_call 15; with_reducible refine (R2.out _).mono ?_; rintro e w2 ⟨rfl, b2⟩; have B := Lib.hid (B.out.trans (b2.mono B.out.size)); clear b2))
    all_goals go_ret
    exact ⟨by simp, B.out⟩
  · have h3 : (2000 : Int) < (l.length : Int) := by omega
    go_enter Try.func4, Try.ntmps4
    go_wp2_with (go_at_call 12; with_reducible refine AW.out.mono ?_; rintro e w2 ⟨rfl, b2⟩; have B := Lib.hid b2; clear b2)
    go_ret
    exact ⟨rfl, B.out⟩
theorem walk_foldTwice (w : World) (s : ByteArray) (h : s.size ≤ maxLen) : Calls Try.prog 4 #[.string s] w fun e w' => e = .returned (.bool true) ∧ Below w.heap.size w w' := by
  have := twice_any s.data.toList w (by rw [Array.length_toList]; unfold maxLen at h; exact h)
  rw [← str_is s] at this
  exact this
end Go.Proofs.Ytljfbdiiecohpaa
