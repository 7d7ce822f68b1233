/- Contracts of Text and Pow for all arguments; texts that start with 0. -/
import Derived.Test.YtlmigbfpdbkkjaaDoorTa
namespace Go.Proofs.YtlmigbfpdbkkjaaDoor
open Go.RowKit

/-- What Text answers. -/
def Nt.txtR (l : List Nat) : List UInt8 × Int := if Nt.rg l = true then (Nt.txt (Nt.val l), 0) else ([], 2)
set_option maxRecDepth 100000 in
set_option maxHeartbeats 800000 in
theorem text3_any (v : Value) (l : List Nat) (w : World) (h : Lm w v l) :
    Calls Tryd.prog 25 #[v] w fun e w' => e = .returned (.tuple #[.string ⟨(Nt.txtR l).1.toArray⟩, .int .i64 (Nt.txtR l).2]) ∧ Below w.heap.size w w' := by
  have LV := Lib.hid h
  obtain ⟨a, c, rfl, hf, ha, hcap, h⟩ := h
  obtain ⟨n, hn⟩ : ∃ n, n = l.length := ⟨_, rfl⟩
  rw [← hn] at hcap LV ⊢
  cases hrl : Nt.rg l with
  | false =>
    have R := Lib.hid (right_b3 _ l false w LV.out hrl)
    have E : Hid (Nt.txtR l = ([], 2)) := by show _ = _; unfold Nt.txtR; rw [hrl]; rfl
    clear h hn hf ha hrl
    go_enter Tryd.func25, Tryd.ntmps25
    go_wp2_with (go_at_call 18; with_reducible refine R.out.mono ?_; rintro e w2 ⟨rfl, rfl⟩)
    go_ret2
    rw [E.out]
    exact ⟨rfl, Below.refl _ _⟩
  | true =>
    have E : Nt.txtR l = (Nt.txt (Nt.val l), 0) := by unfold Nt.txtR; rw [hrl]; rfl
    by_cases n0 : n = 0
    · subst n0
      have R := Lib.hid (right_b3 _ l true w LV.out hrl)
      have E2 : Hid (Nt.txtR l = ([48], 0)) := by
        show _ = _
        rw [E, List.eq_nil_of_length_eq_zero hn.symm]; rfl
      clear h hn hf ha hrl E
      go_enter Tryd.func25, Tryd.ntmps25
      go_wp2_with (go_at_call 18; with_reducible refine R.out.mono ?_; rintro e w2 ⟨rfl, rfl⟩)
      go_ret2
      rw [E2.out]
      exact ⟨rfl, Below.refl _ _⟩
    · rw [E]
      exact text_yes a n c l w LV hn n0 hrl
set_option maxRecDepth 100000 in
set_option maxHeartbeats 800000 in
theorem pow3_any (v : Value) (l : List Nat) (n : Int) (w : World) (h : Lm w v l) (hn : n < 9223372036854775808) :
    Calls Tryd.prog 27 #[v, .int .i64 n] w fun e w' => ∃ a n2 c, e = .returned (.tuple #[.slice a n2 c, .int .i64 (Nt.powR l n).2]) ∧ Lm w' (.slice a n2 c) (Nt.powR l n).1 ∧ Below w.heap.size w w' := by
  have LV := Lib.hid h
  obtain ⟨a, c, rfl, hf, ha, hcap, h⟩ := h
  cases hrl : Nt.rg l with
  | false =>
    have R := Lib.hid (right_b3 _ l false w LV.out hrl)
    have E : Hid (Nt.powR l n = ([], 2)) := by show _ = _; unfold Nt.powR; rw [if_neg (fun x => by rw [hrl] at x; cases x.1)]
    clear h hn hf ha hrl
    go_enter Tryd.func27, Tryd.ntmps27
    go_wp2_with (go_at_call 18; with_reducible refine R.out.mono ?_; rintro e w2 ⟨rfl, rfl⟩)
    go_ret2
    rw [E.out]
    exact ⟨_, _, _, rfl, Lm.nil _, Below.refl _ _⟩
  | true =>
    by_cases n0 : n < 0
    · have R := Lib.hid (right_b3 _ l true w LV.out hrl)
      have E : Hid (Nt.powR l n = ([], 2)) := by show _ = _; unfold Nt.powR; rw [if_neg (fun x => by omega)]
      have D : decide (n < 0) = true := decide_eq_true n0
      clear h hn hf ha hrl
      go_enter Tryd.func27, Tryd.ntmps27
      go_wp2_with (go_at_call 18; with_reducible refine R.out.mono ?_; rintro e w2 ⟨rfl, rfl⟩)
      go_ret2
      rw [E.out]
      exact ⟨_, _, _, rfl, Lm.nil _, Below.refl _ _⟩
    · obtain ⟨N, rfl⟩ : ∃ N : Nat, n = (N : Int) := ⟨n.toNat, by omega⟩
      have E : Nt.powR l N = Nt.numR (Nt.val l ^ N) := by unfold Nt.powR; rw [if_pos ⟨hrl, by omega⟩, Int.toNat_natCast]
      rw [E]
      refine (pow_yes a _ c l N w LV hrl (by omega)).mono ?_
      rintro e w' ⟨a2, n2, c2, e2, rfl, h2, h3, h4⟩
      exact ⟨a2, n2, c2, by rw [h2], h3, h4⟩
set_option maxRecDepth 100000 in
set_option maxHeartbeats 800000 in
theorem text_007 (w : World) : Calls Tryd.prog 46 #[.string ⟨#[48, 48, 55]⟩] w fun e w' => e = .returned (.bool false) ∧ Below w.heap.size w w' := by
  go_enter Tryd.func46, Tryd.ntmps46
  go_wp2
  go_ret
  exact ⟨rfl, Below.refl _ _⟩
set_option maxRecDepth 100000 in
set_option maxHeartbeats 800000 in
theorem read_007 (w : World) : Calls Tryd.prog 26 #[.string ⟨#[48, 48, 55]⟩] w fun e w' => e = .returned (.tuple #[.slice none 0 0, .int .i64 30]) ∧ Below w.heap.size w w' := by
  have T := Lib.hid (text_007 w)
  go_enter Tryd.func26, Tryd.ntmps26
  go_wp2_with (go_at_call 46; with_reducible refine T.out.mono ?_; rintro e w2 ⟨rfl, b2⟩)
  go_ret2
  exact ⟨rfl, b2⟩
end Go.Proofs.YtlmigbfpdbkkjaaDoor
