/- StatsRanks of no numbers: the walk. -/
import Derived.Test.YtjfopggpohakkaaRn
namespace Go.Proofs.Ytjfopggpohakkaa
open Go.RowKit

set_option maxRecDepth 100000 in
set_option maxHeartbeats 6400000 in
theorem ranks_none (w : World) (a : Option Addr) (cap : Nat) (s t : Int) :
    Calls Try.prog 12 #[.slice a 0 cap, .int .i64 s, .int .i64 t] w fun e w' => e = .returned (.bool true) ∧ Below w.heap.size w w' := by
  obtain ⟨p0, ep, hp⟩ := picked s 10001 (by omega)
  obtain ⟨q0, eq, hq⟩ := picked t 10001 (by omega)
  have AW := Lib.hid (awake4_any w)
  have PS := Lib.hid (fun w' => share4 s w')
  have PT := Lib.hid (fun w' => share4 t w')
  rw [ep] at PS
  rw [eq] at PT
  obtain ⟨p, hpp⟩ : ∃ p, p = min p0 q0 := ⟨_, rfl⟩
  obtain ⟨q, hqq⟩ : ∃ q, q = max p0 q0 := ⟨_, rfl⟩
  have m1 : min (p0 : Int) (q0 : Int) = (p : Int) := by omega
  have m2 : max (p0 : Int) (q0 : Int) = (q : Int) := by omega
  have p4 : p ≤ 10000 := by omega
  have q4 : q ≤ 10000 := by omega
  clear ep eq hp hq hpp hqq
  have QN : Hid (∀ (r : Nat) (_ : r ≤ 10000) w', Calls Try.prog 37 #[.slice a 0 cap, .int .i64 r] w' fun e w'' => e = .returned (.tuple #[.int .i64 0, .int .i64 6]) ∧ Below w'.heap.size w' w'') := fun r hr w' => by
    have := quantile_any (.slice a 0 cap) [] (r : Int) w' ⟨a, cap, rfl, .inl rfl⟩
    have eE : qE ([] : List Int).length (r : Int) = 6 := by unfold qE; rw [if_neg (by simp), if_neg (by rw [sh_yes hr]; simp)]; rfl
    rw [show qV [] (r : Int) = 0 by unfold qV; rw [eE]; rfl, eE] at this
    exact this
  have g0 : (0 : Int) ≤ (cap : Int) := by omega
  have mz : min (0 : Int) 5000 = 0 := by decide
  go_enter Try.func12, Try.ntmps12
  go_wp2_with (first
    | (go_at_call 14; with_reducible refine AW.out.mono ?_; rintro e w1 ⟨rfl, b1⟩)
    | (go_at_call 20; with_reducible refine (PS.out _).mono ?_; rintro e w' ⟨rfl, rfl⟩)
    | (go_at_call 20; with_reducible refine (PT.out _).mono ?_; rintro e w' ⟨rfl, rfl⟩)
    | (go_at_call 37; with_reducible refine (QN.out p p4 _).mono ?_; rintro e w2 ⟨rfl, b2⟩)
    | (go_at_call 37; with_reducible refine (QN.out q q4 _).mono ?_; rintro e w3 ⟨rfl, b3⟩))
  go_ret
  exact ⟨rfl, b1.trans ((b2.trans (b3.mono b2.size)).mono b1.size)⟩
end Go.Proofs.Ytjfopggpohakkaa
