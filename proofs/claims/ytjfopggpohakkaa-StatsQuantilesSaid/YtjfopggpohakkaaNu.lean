/- Contract of Pow, for any slice. -/
import Derived.Test.YtjfopggpohakkaaNr
namespace Go.Proofs.Ytjfopggpohakkaa
open Go.RowKit
set_option maxRecDepth 100000 in
set_option maxHeartbeats 800000 in
theorem pow3_any (v : Value) (l : List Nat) (n : Int) (w : World) (h : Lm w v l) (hn : n < 9223372036854775808) :
    Calls Try.prog 33 #[v, .int .i64 n] w fun e w' => ∃ a n2 c, e = .returned (.tuple #[.slice a n2 c, .int .i64 (Nt.powR l n).2]) ∧ Lm w' (.slice a n2 c) (Nt.powR l n).1 ∧ Below w.heap.size w w' := by
  have LV := Lib.hid h
  obtain ⟨a, c, rfl, hf, ha, hcap, h⟩ := h
  cases hrl : Nt.rg l with
  | false =>
    have R := Lib.hid (right_b3 _ l false w LV.out hrl)
    have E : Hid (Nt.powR l n = ([], 2)) := by show _ = _; unfold Nt.powR; rw [if_neg (fun x => by rw [hrl] at x; cases x.1)]
    clear h hn hf ha hrl
    go_enter Try.func33, Try.ntmps33
    go_wp2_with (go_at_call 60; with_reducible refine R.out.mono ?_; rintro e w2 ⟨rfl, rfl⟩)
    go_ret2
    rw [E.out]
    exact ⟨_, _, _, rfl, Lm.nil _, Below.refl _ _⟩
  | true =>
    by_cases n0 : n < 0
    · have R := Lib.hid (right_b3 _ l true w LV.out hrl)
      have E : Hid (Nt.powR l n = ([], 2)) := by show _ = _; unfold Nt.powR; rw [if_neg (fun x => by omega)]
      have D : decide (n < 0) = true := decide_eq_true n0
      clear h hn hf ha hrl
      go_enter Try.func33, Try.ntmps33
      go_wp2_with (go_at_call 60; with_reducible refine R.out.mono ?_; rintro e w2 ⟨rfl, rfl⟩)
      go_ret2
      rw [E.out]
      exact ⟨_, _, _, rfl, Lm.nil _, Below.refl _ _⟩
    · obtain ⟨N, rfl⟩ : ∃ N : Nat, n = (N : Int) := ⟨n.toNat, by omega⟩
      have E : Nt.powR l N = Nt.numR (Nt.val l ^ N) := by unfold Nt.powR; rw [if_pos ⟨hrl, by omega⟩, Int.toNat_natCast]
      rw [E]
      refine (pow_yes a _ c l N w LV hrl (by omega)).mono ?_
      rintro e w' ⟨a2, n2, c2, e2, rfl, h2, h3, h4⟩
      exact ⟨a2, n2, c2, by rw [h2], h3, h4⟩
end Go.Proofs.Ytjfopggpohakkaa
