/- Contract of DivMod, for all arguments. -/
import Derived.Test.YtjfopggpohakkaaNp
namespace Go.Proofs.Ytjfopggpohakkaa
open Go.RowKit

/-- What DivMod answers. -/
def DivP (l m : List Nat) (w : World) (e : Ending) (w' : World) : Prop := ∃ a n c a' n' c', e = .returned (.tuple #[.slice a n c, .slice a' n' c', .int .i64 (Nt.divE l m)]) ∧ Lm w' (.slice a n c) (Nt.quoR l m) ∧ Lm w' (.slice a' n' c') (Nt.remR l m) ∧ Below w.heap.size w w'
theorem div_none (l m : List Nat) (w w' : World) (h : ¬ (Nt.rg l = true ∧ Nt.rg m = true ∧ m ≠ [])) (b : Below w.heap.size w w') : DivP l m w (.returned (.tuple #[.slice none 0 0, .slice none 0 0, .int .i64 2])) w' := by
  obtain ⟨e1, e2, e3⟩ := Nt.div_no h
  refine ⟨none, 0, 0, none, 0, 0, by rw [e3], ?_, ?_, b⟩
  · rw [e1]; exact Lm.nil _
  · rw [e2]; exact Lm.nil _
set_option maxRecDepth 100000 in
set_option maxHeartbeats 1600000 in
theorem div3_any (v u : Value) (l m : List Nat) (w : World) (h : Lm w v l) (h' : Lm w u m) :
    Calls Try.prog 99 #[v, u] w fun e w' => DivP l m w e w' := by
  have LV := Lib.hid h
  have LU := Lib.hid h'
  obtain ⟨a, c, rfl, hf, ha, hcap, h⟩ := h
  obtain ⟨a', c', rfl, hf', ha', hcap', -⟩ := h'
  obtain ⟨n, hn⟩ : ∃ n, n = l.length := ⟨_, rfl⟩
  obtain ⟨n', hn'⟩ : ∃ n, n = m.length := ⟨_, rfl⟩
  rw [← hn] at hcap LV ⊢
  rw [← hn'] at hcap' LU ⊢
  cases hrl : Nt.rg l with
  | false =>
    have R := Lib.hid (right_b3 _ l false w LV.out hrl)
    have E := Lib.hid (fun w' => div_none l m w w' (fun x => by rw [hrl] at x; cases x.1))
    clear h hn hn' hf hf' ha ha' hrl
    go_enter Try.func99, Try.ntmps99
    go_wp2_with (go_at_call 60; with_reducible refine R.out.mono ?_; rintro e w2 ⟨rfl, rfl⟩)
    go_ret3
    exact E.out _ (Below.refl _ _)
  | true =>
    cases hrm : Nt.rg m with
    | false =>
      have R := Lib.hid (right_b3 _ l true w LV.out hrl)
      have R' := Lib.hid (right_b3 _ m false w LU.out hrm)
      have E := Lib.hid (fun w' => div_none l m w w' (fun x => by rw [hrm] at x; cases x.2.1))
      clear h hn hn' hf hf' ha ha' hrl hrm
      go_enter Try.func99, Try.ntmps99
      go_wp2_with (first
        | (go_at_call 60; with_reducible refine R.out.mono ?_; rintro e w2 ⟨rfl, rfl⟩)
        | (go_at_call 60; with_reducible refine R'.out.mono ?_; rintro e w2 ⟨rfl, rfl⟩))
      go_ret3
      exact E.out _ (Below.refl _ _)
    | true =>
      have R := Lib.hid (right_b3 _ l true w LV.out hrl)
      have R' := Lib.hid (right_b3 _ m true w LU.out hrm)
      by_cases h0 : n' = 0
      · subst h0
        have E := Lib.hid (fun w' => div_none l m w w' (fun x => x.2.2 (List.eq_nil_of_length_eq_zero hn'.symm)))
        clear h hn hn' hf hf' ha ha' hrl hrm
        go_enter Try.func99, Try.ntmps99
        go_wp2_with (first
          | (go_at_call 60; with_reducible refine R.out.mono ?_; rintro e w2 ⟨rfl, rfl⟩)
          | (go_at_call 60; with_reducible refine R'.out.mono ?_; rintro e w2 ⟨rfl, rfl⟩))
        go_ret3
        exact E.out _ (Below.refl _ _)
      · obtain ⟨nb, rfl⟩ : ∃ nb, n' = nb + 1 := ⟨n' - 1, by omega⟩
        have ne : m ≠ [] := fun x => by rw [x] at hn'; simp at hn'
        obtain ⟨q1, q2, q3⟩ := Nt.div_ok hrl hrm ne
        by_cases hle : nb + 1 ≤ n
        · refine (div_long a a' n c nb c' l m w LV LU hn hn' hle hrl hrm).mono ?_
          rintro e w' ⟨x1, x2, x3, y1, y2, y3, rfl, l1, l2, b⟩
          exact ⟨x1, x2, x3, y1, y2, y3, by rw [q3], by rw [q1]; exact l1, by rw [q2]; exact l2, b⟩
        · have lt : Nt.val l < Nt.val m := Pos.lt_of_len Nt.two_B (Nt.ok_of hf hrl) (Nt.ok_of hf' hrm) (by omega)
          have e1 : Nt.quoR l m = [] := by rw [q1, Nat.div_eq_of_lt lt]; rfl
          have e2 : Nt.remR l m = l := by rw [q2, Nat.mod_eq_of_lt lt]; exact Nt.dig_of hf hrl
          have nl : n ≤ 1024 := by rw [hn]; exact ((Nt.rg_iff l).1 hrl).1
          have CA : Hid (Calls Try.prog 109 #[.slice a n c] w fun e w' => ∃ a2 c2, e = .returned (.slice a2 n c2) ∧ Hid (Lm w' (.slice a2 n c2) l) ∧ Hid (Below w.heap.size w w')) := by
            show Calls _ _ _ _ _
            have := clone2_any _ l w LV.out (by omega)
            rw [← hn] at this
            refine this.mono ?_
            rintro e w' ⟨a2, c2, rfl, hcl, hb⟩
            exact ⟨a2, c2, rfl, hcl.lm, hb⟩
          have E : Hid (∀ w' a2 c2, Lm w' (.slice a2 n c2) l → Below w.heap.size w w' → DivP l m w (.returned (.tuple #[.slice none 0 0, .slice a2 n c2, .int .i64 0])) w') := by
            intro w' a2 c2 l2 b2
            exact ⟨none, 0, 0, a2, n, c2, by rw [q3], by rw [e1]; exact Lm.nil _, by rw [e2]; exact l2, b2⟩
          clear h hn hn' hf hf' ha ha' hrl hrm q1 q2 q3 e1 e2 lt ne
          go_enter Try.func99, Try.ntmps99
          go_wp2_with (first
            | (go_at_call 60; with_reducible refine R.out.mono ?_; rintro e w2 ⟨rfl, rfl⟩)
            | (go_at_call 60; with_reducible refine R'.out.mono ?_; rintro e w2 ⟨rfl, rfl⟩)
            | (go_at_call 109; with_reducible refine CA.out.mono ?_; rintro e w2 ⟨a2, c2, rfl, L2, B2⟩))
          go_ret3
          exact E.out _ _ _ L2.out B2.out
end Go.Proofs.Ytjfopggpohakkaa
