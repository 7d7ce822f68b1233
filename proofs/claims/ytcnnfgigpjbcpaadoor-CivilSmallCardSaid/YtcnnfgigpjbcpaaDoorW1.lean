/- Contracts of civil's small functions: years, months, limits. -/
import Derived.Test.YtcnnfgigpjbcpaaDoorProg
import Derived.Test.YtcnnfgigpjbcpaaDoorCal
import Derived.WalkKit
import Derived.WalkSpells
import Derived.WalkLawsBesides
import Derived.Handy
import Derived.Lib.Hide
import Derived.Lib.SmallJoins
import Derived.Lib.ItoaNum
namespace Go.Proofs.YtcnnfgigpjbcpaaDoor
open Go.RowKit

theorem tmod0 (y k : Int) : y.tmod k = 0 ↔ y % k = 0 :=
  ⟨fun h => Int.emod_eq_zero_of_dvd (Int.dvd_of_tmod_eq_zero h), fun h => Int.tmod_eq_zero_of_dvd (Int.dvd_of_emod_eq_zero h)⟩
theorem lp_t1 {y : Int} (h4 : y.tmod 4 = 0) (h100 : y.tmod 100 = 0) : (y.tmod 400 == 0) = Cal.lp y := by
  rw [Bool.eq_iff_iff, Cal.lp_iff, ← tmod0, ← tmod0, ← tmod0, beq_iff_eq]
  exact ⟨fun h => ⟨h4, Or.inr h⟩, fun ⟨_, h⟩ => h.resolve_left (fun x => x h100)⟩
theorem lp_t2 {y : Int} (h4 : y.tmod 4 = 0) (h100 : ¬ y.tmod 100 = 0) : true = Cal.lp y := by
  symm; rw [Cal.lp_iff, ← tmod0, ← tmod0, ← tmod0]; exact ⟨h4, Or.inl h100⟩
theorem lp_t3 {y : Int} (h4 : ¬ y.tmod 4 = 0) : false = Cal.lp y := by
  symm; rw [← Bool.not_eq_true, Cal.lp_iff, ← tmod0]; exact fun h => h4 h.1
theorem ret_bool {a b : Bool} (h : a = b) : Ending.returned (.bool a) = .returned (.bool b) := by rw [h]
theorem ret_int {k : IntKind} {a b : Int} (h : a = b) : Ending.returned (.int k a) = .returned (.int k b) := by rw [h]
/-- The error of a number that must lie from 0 to a greatest one. -/
def err (n g : Int) : Int := if n < 0 then 2 else if g < n then 3 else 0
theorem err_neg {n g : Int} (h : n < 0) : err n g = 2 := by unfold err; rw [if_pos h]
theorem err_long {n g : Int} (h0 : 0 ≤ n) (h : g < n) : err n g = 3 := by unfold err; rw [if_neg (by omega), if_pos h]
theorem err_cases (n g : Int) : n < 0 ∧ err n g = 2 ∨ 0 ≤ n ∧ g < n ∧ err n g = 3 ∨ 0 ≤ n ∧ n ≤ g ∧ err n g = 0 := by
  unfold err
  by_cases h : n < 0
  · exact Or.inl ⟨h, if_pos h⟩
  · by_cases h' : g < n
    · exact Or.inr (Or.inl ⟨by omega, h', by rw [if_neg h, if_pos h']⟩)
    · exact Or.inr (Or.inr ⟨by omega, by omega, by rw [if_neg h, if_neg h']⟩)
theorem err_bad {n g : Int} (h : n < 0 ∨ g < n) : err n g = 2 ∨ err n g = 3 := by
  rcases err_cases n g with c | c | c <;> omega
theorem err_ok {n g : Int} (h0 : 0 ≤ n) (h : n ≤ g) : err n g = 0 := by unfold err; rw [if_neg (by omega), if_neg (by omega)]

set_option maxHeartbeats 400000 in
theorem leap_any (y : Int) (w : World) : Calls Tryd.prog 16 #[.int .i64 y] w fun e w' => e = .returned (.bool (Cal.lp y)) ∧ w = w' := by
  go_enter Tryd.func16, Tryd.ntmps16
  go_wp2
  all_goals go_ret
  · exact ⟨ret_bool (lp_t1 ‹_› ‹_›), rfl⟩
  · exact ⟨ret_bool (lp_t2 ‹_› ‹_›), rfl⟩
  · exact ⟨ret_bool (lp_t3 ‹_›), rfl⟩
set_option maxHeartbeats 400000 in
theorem ys_any (k : Int) (w : World) (h0 : 0 ≤ k) (h : k ≤ 2000) : Calls Tryd.prog 42 #[.int .i64 k] w fun e w' => e = .returned (.int .i64 (Cal.ys k)) ∧ w = w' := by
  go_enter Tryd.func42, Tryd.ntmps42
  go_wp2
  go_ret
  exact ⟨rfl, rfl⟩
set_option maxHeartbeats 400000 in
theorem upTo_any (n g : Int) (w : World) : Calls Tryd.prog 62 #[.int .i64 n, .int .i64 g] w fun e w' => e = .returned (.int .i64 (err n g)) ∧ w = w' := by
  go_enter Tryd.func62, Tryd.ntmps62
  go_wp2
  all_goals go_ret
  · exact ⟨ret_int (err_neg ‹_›).symm, rfl⟩
  · exact ⟨ret_int (err_long ‹_› ‹_›).symm, rfl⟩
  · exact ⟨ret_int (err_ok ‹_› ‹_›).symm, rfl⟩
set_option maxHeartbeats 400000 in
theorem checkDay_any (n : Int) (w : World) : Calls Tryd.prog 60 #[.int .i64 n] w fun e w' => e = .returned (.int .i64 (err n 730484)) ∧ w = w' := by
  go_enter Tryd.func60, Tryd.ntmps60
  go_wp2_with (go_at_call 62; refine (upTo_any _ _ _).mono ?_; rintro e w' ⟨rfl, rfl⟩)
  go_ret
  exact ⟨rfl, rfl⟩
/-- What the package-level tables hold. -/
structure Gl (w : World) : Prop where
  ms : Lib.TabIs Tryd.prog w "letterbag/civil.monthStarts" .i64 Cal.tab
  pw : Lib.TabIs Tryd.prog w "internal/strconv.uint64pow10" .u64 Lib.pow10Tab
theorem gMs : Tryd.prog.globalNamed "letterbag/civil.monthStarts" = some 0 := by kernel_rfl
theorem gPw : Tryd.prog.globalNamed "internal/strconv.uint64pow10" = some 1 := by kernel_rfl
theorem Gl.below {w w' : World} (G : Gl w) (h : Below w.heap.size w w') : Gl w' :=
  ⟨Joins.tab_stays gMs G.ms h (Nat.le_refl _), Joins.tab_stays gPw G.pw h (Nat.le_refl _)⟩
/-- A world in which the tables hold, and in which all that lay in an elder one lies as it did. -/
structure St (w0 w : World) : Prop where
  gl : Gl w
  bl : Below w0.heap.size w0 w
theorem St.refl {w : World} (G : Gl w) : St w w := ⟨G, Below.refl _ _⟩
theorem St.step {w0 w w' : World} (S : St w0 w) (h : Below w.heap.size w w') : St w0 w' := ⟨S.gl.below h, S.bl.trans (h.mono S.bl.size)⟩
theorem tab_bd : ∀ i : Fin 13, 0 ≤ Cal.tab.getD i.val 0 ∧ Cal.tab.getD i.val 0 ≤ 365 := by decide
theorem ms_f {m x : Int} (h1 : 1 ≤ m) (h : Hid (x = Cal.tab.getD (m.toNat - 1) 0)) : x = Cal.ms m false := by
  unfold Cal.ms; rw [h.out, show (m - 1).toNat = m.toNat - 1 by omega]; simp
theorem ms_t1 {m x : Int} (_h1 : 1 ≤ m) (h : Hid (x = Cal.tab.getD (m.toNat - 1) 0)) (h2 : 2 < m) : x + 1 = Cal.ms m true := by
  unfold Cal.ms; rw [h.out, show (m - 1).toNat = m.toNat - 1 by omega, if_pos ⟨rfl, h2⟩]
theorem ms_t2 {m x : Int} (h1 : 1 ≤ m) (h : Hid (x = Cal.tab.getD (m.toNat - 1) 0)) (h2 : m ≤ 2) : x = Cal.ms m true := by
  unfold Cal.ms; rw [h.out, show (m - 1).toNat = m.toNat - 1 by omega, if_neg (by omega)]; omega

set_option maxHeartbeats 400000 in
theorem ms_any (m : Int) (l : Bool) (w : World) (h1 : 1 ≤ m) (h2 : m ≤ 13) (G : Gl w) :
    Calls Tryd.prog 41 #[.int .i64 m, .bool l] w fun e w' => e = .returned (.int .i64 (Cal.ms m l)) ∧ w = w' := by
  obtain ⟨x, hx⟩ : ∃ x, x = Cal.tab.getD (m.toNat - 1) 0 := ⟨_, rfl⟩
  have hc := G.ms.cell gMs (m.toNat - 1) (by show _ < 13; omega)
  have hb := tab_bd ⟨m.toNat - 1, by omega⟩
  simp only [] at hb
  rw [← hx] at hc hb
  have HX : Hid _ := Lib.hid hx
  clear hx
  obtain ⟨hb1, hb2⟩ := hb
  cases l
  · go_enter Tryd.func41, Tryd.ntmps41
    go_wp2
    go_ret
    exact ⟨ret_int (ms_f h1 HX), rfl⟩
  · by_cases c : 2 < m
    · go_enter Tryd.func41, Tryd.ntmps41
      go_wp2
      go_ret
      exact ⟨ret_int (ms_t1 h1 HX c), rfl⟩
    · go_enter Tryd.func41, Tryd.ntmps41
      go_wp2
      go_ret
      exact ⟨ret_int (ms_t2 h1 HX (by omega)), rfl⟩
/-- Where the number is refused. -/
theorem checkDay_bad (n e : Int) (w : World) (h : err n 730484 = e) : Calls Tryd.prog 60 #[.int .i64 n] w fun r w' => r = .returned (.int .i64 e) ∧ w = w' := by
  subst h; exact checkDay_any n w
theorem checkDay_ok (n : Int) (w : World) (h0 : 0 ≤ n) (h : n ≤ 730484) : Calls Tryd.prog 60 #[.int .i64 n] w fun r w' => r = .returned (.int .i64 0) ∧ w = w' :=
  checkDay_bad n 0 w (err_ok h0 h)
theorem upTo_eq (n g e : Int) (w : World) (h : err n g = e) : Calls Tryd.prog 62 #[.int .i64 n, .int .i64 g] w fun r w' => r = .returned (.int .i64 e) ∧ w = w' := by
  subst h; exact upTo_any n g w
end Go.Proofs.YtcnnfgigpjbcpaaDoor
