/- The chapter's examples: 'awake' answers true in whatever world the tables hold. -/
import Derived.Test.YtcnnfgigpjbcpaaDoorW8
namespace Go.Proofs.YtcnnfgigpjbcpaaDoor
open Go.RowKit

namespace Hol
theorem ahead_eq (l : List Int) (d n : Int) (m k : Nat) (hp : l.Pairwise (· < ·)) (hn : 0 ≤ n) (hk : k < m) (hw : works l (d + k) = true) (he : wb l (d + k) - wb l d = n) : ahead l d n m = k := by
  obtain ⟨h1, h2, h3⟩ := ahead_spec l d n m hp hn
  have s := wb_succ l (d + k) hp
  rw [hw, if_pos rfl] at s
  by_cases c : ahead l d n m = m
  · have := h3 c
    have mo := wb_mono l hp (d + k + 1) (d + m) (by omega)
    omega
  · obtain ⟨a1, a2⟩ := h2 (by omega)
    have s2 := wb_succ l (d + ahead l d n m) hp
    rw [a1, if_pos rfl] at s2
    by_cases c1 : ahead l d n m < k
    · have mo := wb_mono l hp (d + ahead l d n m + 1) (d + k) (by omega); omega
    · by_cases c2 : k < ahead l d n m
      · have mo := wb_mono l hp (d + k + 1) (d + ahead l d n m) (by omega); omega
      · omega
end Hol
theorem d0 : Cal.IsDate 0 2001 1 1 := by constructor <;> decide
theorem d1154 : Cal.IsDate 1154 2004 2 29 := by constructor <;> decide
theorem dno : Cal.ok 2100 2 29 = false := by decide
theorem d1461 : Cal.IsDate 1461 2005 1 1 := by constructor <;> decide
theorem d59 : Cal.IsDate 59 2001 3 1 := by constructor <;> decide
theorem d364 : Cal.IsDate 364 2001 12 31 := by constructor <;> decide
theorem t59 : (dtx 2001 3 1).toArray = #[50, 48, 48, 49, 45, 48, 51, 45, 48, 49] := by decide
def l1441 : List UInt8 := [50, 48, 48, 49, 45, 48, 49, 45, 48, 50, 32, 48, 48, 58, 48, 49]
theorem r1441 : RtOk l1441 1441 := by
  refine ⟨by decide, by decide, by decide, by decide, by decide, by decide, by decide, 1, ⟨by decide, by decide, by decide, ?_⟩, by decide⟩
  constructor <;> decide
theorem y1201 : ydB 1201 = true := by decide
theorem y228 : ydB 228 = true := by decide
theorem in1 : inB (100 * 12 + 31) 1201 228 = true := by decide
theorem in2 : inB (100 * 3 + 1) 1201 228 = false := by decide
theorem right1 : Hol.right [1] = true := by decide
theorem right0 : Hol.right [] = true := by decide
theorem btw : Hol.wb [1] 7 - Hol.wb [1] 0 = 4 := by decide
theorem ah1 : Hol.ahead [1] 0 1 730485 = 2 := Hol.ahead_eq _ _ _ _ _ (Hol.inc_pw _ (-1) (by decide)) (by decide) (by decide) (by decide) (by decide)
theorem ah2 : Hol.ahead [] 5 0 730480 = 2 := Hol.ahead_eq _ _ _ _ _ (Hol.inc_pw _ (-1) (by decide)) (by decide) (by decide) (by decide) (by decide)
theorem text59 (w0 w : World) (S : St w0 w) : Calls Tryd.prog 31 #[.int .i64 59] w fun e w' => e = .returned (.tuple #[.string ⟨#[50, 48, 48, 49, 45, 48, 51, 45, 48, 49]⟩, .int .i64 0]) ∧ St w0 w' := by
  rw [← t59]; exact text_ok w0 w d59 S
theorem read1441 (w0 w : World) (S : St w0 w) : Calls Tryd.prog 22 #[.string ⟨#[50, 48, 48, 49, 45, 48, 49, 45, 48, 50, 32, 48, 48, 58, 48, 49]⟩] w fun e w' => e = .returned (.tuple #[.int .i64 1441, .int .i64 0]) ∧ St w0 w' :=
  (readTime_yes _ w r1441 S.gl).mono fun _ _ ⟨he, hq⟩ => ⟨he, hq.st S⟩
theorem between4 (v : Value) (w0 w : World) (S : St w0 w) (h : Sl w v [1]) : Calls Tryd.prog 34 #[.int .i64 0, .int .i64 7, v] w fun e w' => e = .returned (.tuple #[.int .i64 4, .int .i64 0]) ∧ St w0 w' := by
  have := between_ok 0 7 v [1] w0 w S h right1 (by decide) (by decide) (by decide)
  rw [btw] at this; exact this
theorem ahead2 (v : Value) (w0 w : World) (S : St w0 w) (h : Sl w v [1]) : Calls Tryd.prog 36 #[.int .i64 0, .int .i64 1, v] w fun e w' => e = .returned (.tuple #[.int .i64 2, .int .i64 0]) ∧ St w0 w' := by
  have := ahead_ok 0 1 v [1] w0 w S h right1 (by decide) (by decide) (by decide) 730485 (by decide)
  rw [ah1] at this; exact this
theorem ahead7 (v : Value) (w0 w : World) (S : St w0 w) (h : Sl w v []) : Calls Tryd.prog 36 #[.int .i64 5, .int .i64 0, v] w fun e w' => e = .returned (.tuple #[.int .i64 7, .int .i64 0]) ∧ St w0 w' := by
  have := ahead_ok 5 0 v [] w0 w S h right0 (by decide) (by decide) (by decide) 730480 (by decide)
  rw [ah2] at this; exact this
theorem yearly_in (w : World) (G : Gl w) : Calls Tryd.prog 38 #[.int .i64 364, .int .i64 1201, .int .i64 228] w fun e w' => e = .returned (.tuple #[.bool true, .int .i64 0]) ∧ w = w' := by
  have := yearly_ok w d364 (by decide) (by decide) (by decide) (by decide) y1201 y228 G
  rw [in1] at this; exact this
theorem yearly_out (w : World) (G : Gl w) : Calls Tryd.prog 38 #[.int .i64 59, .int .i64 1201, .int .i64 228] w fun e w' => e = .returned (.tuple #[.bool false, .int .i64 0]) ∧ w = w' := by
  have := yearly_ok w d59 (by decide) (by decide) (by decide) (by decide) y1201 y228 G
  rw [in2] at this; exact this
end Go.Proofs.YtcnnfgigpjbcpaaDoor
