/- CivilReads: its walk. -/
import Derived.Test.YtcnnfgigpjbcpaaDoorR4
namespace Go.Proofs.YtcnnfgigpjbcpaaDoor
open Go.RowKit
theorem read_any (s : ByteArray) : ∃ a e : Int, (∀ w0 w, St w0 w → Calls Tryd.prog 20 #[.string s] w fun r w' => r = .returned (.tuple #[.int .i64 a, .int .i64 e]) ∧ St w0 w') ∧ (∀ w0 w, St w0 w → Calls Tryd.prog 21 #[.string s] w fun r w' => r = .returned (.tuple #[.int .i64 a, .int .i64 e]) ∧ St w0 w') := by
  by_cases h : ∃ n, RdOk s.data.toList n
  · obtain ⟨n, h⟩ := h
    exact ⟨n, 0, fun w0 w S => (read_yes s w h S.gl).mono fun _ _ ⟨he, hq⟩ => ⟨he, hq.st S⟩, fun w0 w S => rread_yes s w0 w h S⟩
  · exact ⟨0, 11, fun w0 w S => (read_no s w h S.gl).mono fun _ _ ⟨he, hq⟩ => ⟨he, hq.st S⟩, fun w0 w S => rread_no s w0 w h S⟩
theorem readTime_any (s : ByteArray) : ∃ a e : Int, (∀ w0 w, St w0 w → Calls Tryd.prog 22 #[.string s] w fun r w' => r = .returned (.tuple #[.int .i64 a, .int .i64 e]) ∧ St w0 w') ∧ (∀ w0 w, St w0 w → Calls Tryd.prog 23 #[.string s] w fun r w' => r = .returned (.tuple #[.int .i64 a, .int .i64 e]) ∧ St w0 w') := by
  by_cases h : ∃ n, RtOk s.data.toList n
  · obtain ⟨n, h⟩ := h
    exact ⟨n, 0, fun w0 w S => (readTime_yes s w h S.gl).mono fun _ _ ⟨he, hq⟩ => ⟨he, hq.st S⟩, fun w0 w S => rreadTime_yes s w0 w h S⟩
  · exact ⟨0, 11, fun w0 w S => (readTime_no s w h S.gl).mono fun _ _ ⟨he, hq⟩ => ⟨he, hq.st S⟩, fun w0 w S => rreadTime_no s w0 w h S⟩
set_option maxRecDepth 100000 in
set_option maxHeartbeats 1600000 in
theorem reads_true (s : ByteArray) (w0 w : World) (S : St w0 w) : Calls Tryd.prog 4 #[.string s] w fun e w' => e = .returned (.bool true) ∧ St w0 w' := by
  obtain ⟨a, e, A, B⟩ := read_any s
  obtain ⟨b, f, C, D⟩ := readTime_any s
  have A' := Lib.hid A
  have B' := Lib.hid B
  have C' := Lib.hid C
  have D' := Lib.hid D
  clear A B C D
  go_enter Tryd.func4, Tryd.ntmps4
  go_wp2_with (first | (go_at_call 20; refine (A'.out w0 _ S).mono ?_; rintro e w1 ⟨rfl, S1⟩) | (go_at_call 21; refine (B'.out w0 _ S1).mono ?_; rintro e w2 ⟨rfl, S2⟩)  | (go_at_call 22; refine (C'.out w0 _ S2).mono ?_; rintro e w3 ⟨rfl, S3⟩) | (go_at_call 23; refine (D'.out w0 _ S3).mono ?_; rintro e w4 ⟨rfl, S4⟩)  | (go_at_call 19; refine (awake_any w0 _ S4).mono ?_; rintro e w5 ⟨rfl, S5⟩))
  go_ret
  exact ⟨rfl, S5⟩
theorem walk_civilReads (s : ByteArray) (_h : s.size ≤ maxLen) (w : World) (G : Gl w) : Calls Tryd.prog 4 #[.string s] w fun e w' => e = .returned (.bool true) ∧ Below w.heap.size w w' :=
  (reads_true s w w (St.refl G)).mono fun _ _ ⟨he, S⟩ => ⟨he, S.bl⟩
end Go.Proofs.YtcnnfgigpjbcpaaDoor
