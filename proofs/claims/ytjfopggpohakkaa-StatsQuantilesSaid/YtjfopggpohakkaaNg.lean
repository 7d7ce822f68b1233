/- Contracts of Cmp, Uint, Of, number. -/
import Derived.Test.YtjfopggpohakkaaNf
namespace Go.Proofs.Ytjfopggpohakkaa
open Go.RowKit

theorem right_b3 (v : Value) (l : List Nat) (b : Bool) (w : World) (h : Lm w v l) (e : Nt.rg l = b) : Calls Try.prog 60 #[v] w fun e w' => e = .returned (.bool b) ∧ w = w' := by
  subst e; exact right3_any v l w h
set_option maxHeartbeats 400000 in
theorem cmpI_any (x y s : Int) (w : World) (hs : s = if x < y then -1 else if y < x then 1 else 0) : Calls Try.prog 66 #[.int .i64 x, .int .i64 y] w fun e w' => e = .returned (.int .i64 s) ∧ w = w' := by
  by_cases c1 : x < y
  · rw [if_pos c1] at hs
    subst hs
    go_enter Try.func66, Try.ntmps66
    go_wp2
    go_ret
    exact ⟨rfl, rfl⟩
  · rw [if_neg c1] at hs
    by_cases c2 : y < x
    · rw [if_pos c2] at hs
      subst hs
      go_enter Try.func66, Try.ntmps66
      go_wp2
      go_ret
      exact ⟨rfl, rfl⟩
    · rw [if_neg c2] at hs
      subst hs
      go_enter Try.func66, Try.ntmps66
      go_wp2
      go_ret
      exact ⟨rfl, rfl⟩
set_option maxHeartbeats 400000 in
theorem cmpU_any (x y : Nat) (s : Int) (w : World) (hs : s = if x < y then -1 else if y < x then 1 else 0) : Calls Try.prog 67 #[.int .u32 (x : Nat), .int .u32 (y : Nat)] w fun e w' => e = .returned (.int .i64 s) ∧ w = w' := by
  by_cases c1 : x < y
  · rw [if_pos c1] at hs
    subst hs
    go_enter Try.func67, Try.ntmps67
    go_wp2
    go_ret
    exact ⟨rfl, rfl⟩
  · rw [if_neg c1] at hs
    by_cases c2 : y < x
    · rw [if_pos c2] at hs
      subst hs
      go_enter Try.func67, Try.ntmps67
      go_wp2
      go_ret
      exact ⟨rfl, rfl⟩
    · rw [if_neg c2] at hs
      subst hs
      go_enter Try.func67, Try.ntmps67
      go_wp2
      go_ret
      exact ⟨rfl, rfl⟩
/-- The state of the comparison: so many limbs are left to look at. -/
def CmpI (l m : List Nat) (k : Nat) (s : Int) : Prop := (s = 0 ∧ l.length = m.length ∧ k ≤ l.length ∧ l.drop k = m.drop k) ∨ (s ≠ 0 ∧ s = Nt.ord (Nt.val l) (Nt.val m))
theorem ord_of {x y : Nat} {s : Int} (h : (s = -1 ∧ x < y) ∨ (s = 1 ∧ y < x) ∨ (s = 0 ∧ x = y)) : s = Nt.ord x y := by
  unfold Nt.ord
  rcases h with ⟨rfl, h⟩ | ⟨rfl, h⟩ | ⟨rfl, h⟩
  · rw [if_pos h]
  · rw [if_neg (by omega), if_pos h]
  · rw [if_neg (by omega), if_neg (by omega)]
theorem cmp_start {l m : List Nat} (hl : Nt.Fit l) (hm : Nt.Fit m) (rl : Nt.rg l = true) (rm : Nt.rg m = true) : CmpI l m l.length (if (l.length : Int) < m.length then -1 else if (m.length : Int) < l.length then 1 else 0) := by
  have ol := Nt.ok_of hl rl
  have om := Nt.ok_of hm rm
  by_cases c1 : l.length < m.length
  · rw [if_pos (by omega)]
    exact Or.inr ⟨by omega, ord_of (Or.inl ⟨rfl, Pos.lt_of_len Nt.two_B ol om c1⟩)⟩
  · rw [if_neg (by omega)]
    by_cases c2 : m.length < l.length
    · rw [if_pos (by omega)]
      exact Or.inr ⟨by omega, ord_of (Or.inr (Or.inl ⟨rfl, Pos.lt_of_len Nt.two_B om ol c2⟩))⟩
    · rw [if_neg (by omega)]
      exact Or.inl ⟨rfl, by omega, Nat.le_refl _, by rw [List.drop_of_length_le (Nat.le_refl _), List.drop_of_length_le (by omega)]⟩
theorem cmp_step {l m : List Nat} {k x y : Nat} {s : Int} (hl : Nt.Fit l) (hm : Nt.Fit m) (h : CmpI l m (k + 1) 0) (hx : x = l.getD k 0) (hy : y = m.getD k 0) (hs : s = if x < y then -1 else if y < x then 1 else 0) : CmpI l m k s := by
  rcases h with ⟨_, e, hk, hd⟩ | ⟨h, _⟩
  · have ev : Pos.val Nt.B (l.drop (k + 1)) = Pos.val Nt.B (m.drop (k + 1)) := by rw [hd]
    by_cases c1 : x < y
    · rw [if_pos c1] at hs
      exact Or.inr ⟨by omega, ord_of (Or.inl ⟨hs, Pos.val_cmp hl (by omega) (by omega) ev (by rw [← hx, ← hy]; exact c1)⟩)⟩
    · rw [if_neg c1] at hs
      by_cases c2 : y < x
      · rw [if_pos c2] at hs
        exact Or.inr ⟨by omega, ord_of (Or.inr (Or.inl ⟨hs, Pos.val_cmp hm (by omega) (by omega) ev.symm (by rw [← hx, ← hy]; exact c2)⟩))⟩
      · rw [if_neg c2] at hs
        have exy : x = y := by omega
        refine Or.inl ⟨hs, e, by omega, ?_⟩
        rw [List.drop_eq_getElem_cons (show k < l.length by omega), List.drop_eq_getElem_cons (show k < m.length by omega), hd]
        rw [hx, hy, List.getD_eq_getElem?_getD, List.getD_eq_getElem?_getD, List.getElem?_eq_getElem (show k < l.length by omega), List.getElem?_eq_getElem (show k < m.length by omega)] at exy
        rw [show l[k] = m[k] from exy]
  · exact absurd rfl h
theorem cmp_done {l m : List Nat} {k : Nat} {s : Int} (h : CmpI l m k s) (hk : s ≠ 0 ∨ k = 0) : s = Nt.ord (Nt.val l) (Nt.val m) := by
  rcases h with ⟨h0, _, _, hd⟩ | ⟨_, h⟩
  · rcases hk with hk | hk
    · exact absurd h0 hk
    · subst hk
      rw [List.drop_zero, List.drop_zero] at hd
      subst hd
      exact ord_of (Or.inr (Or.inr ⟨h0, rfl⟩))
  · exact h
set_option maxRecDepth 100000 in
set_option maxHeartbeats 1600000 in
theorem cmp3_any (v u : Value) (l m : List Nat) (w : World) (h : Lm w v l) (h' : Lm w u m) : Calls Try.prog 36 #[v, u] w fun e w' => e = .returned (.tuple #[.int .i64 (Nt.cmpV l m), .int .i64 (Nt.cmpE l m)]) ∧ Qt w w' := by
  have LV := Lib.hid h
  have LU := Lib.hid h'
  obtain ⟨a, c, rfl, hf, ha, hcap, h⟩ := h
  obtain ⟨a', c', rfl, hf', ha', hcap', h'⟩ := h'
  obtain ⟨n, hn⟩ : ∃ n, n = l.length := ⟨_, rfl⟩
  obtain ⟨n', hn'⟩ : ∃ n, n = m.length := ⟨_, rfl⟩
  rw [← hn] at h hcap LV ⊢
  rw [← hn'] at h' hcap' LU ⊢
  have HN := Lib.hid hn
  have HN' := Lib.hid hn'
  cases hrl : Nt.rg l with
  | false =>
    have R := Lib.hid (right_b3 _ l false w LV.out hrl)
    have E : Hid (Nt.cmpV l m = 0 ∧ Nt.cmpE l m = 2) := by
      show _ ∧ _
      unfold Nt.cmpV Nt.cmpE; rw [if_neg (by simp [hrl]), if_neg (by simp [hrl])]; exact ⟨rfl, rfl⟩
    clear h h' hn hn' hf hf' ha ha' hrl
    go_enter Try.func36, Try.ntmps36
    go_wp2_with (go_at_call 60; with_reducible refine R.out.mono ?_; rintro e w2 ⟨rfl, rfl⟩)
    go_ret2
    exact ⟨ret_ii E.out.1.symm E.out.2.symm, Qt.refl _⟩
  | true =>
    cases hrm : Nt.rg m with
    | false =>
      have R := Lib.hid (right_b3 _ l true w LV.out hrl)
      have R' := Lib.hid (right_b3 _ m false w LU.out hrm)
      have E : Hid (Nt.cmpV l m = 0 ∧ Nt.cmpE l m = 2) := by
        show _ ∧ _
        unfold Nt.cmpV Nt.cmpE; rw [if_neg (by simp [hrm]), if_neg (by simp [hrm])]; exact ⟨rfl, rfl⟩
      clear h h' hn hn' hf hf' ha ha' hrl hrm
      go_enter Try.func36, Try.ntmps36
      go_wp2_with (first
        | (go_at_call 60; with_reducible refine R.out.mono ?_; rintro e w2 ⟨rfl, rfl⟩)
        | (go_at_call 60; with_reducible refine R'.out.mono ?_; rintro e w2 ⟨rfl, rfl⟩))
      go_ret2
      exact ⟨ret_ii E.out.1.symm E.out.2.symm, Qt.refl _⟩
    | true =>
      have R := Lib.hid (right_b3 _ l true w LV.out hrl)
      have R' := Lib.hid (right_b3 _ m true w LU.out hrm)
      have E := Lib.hid (Nt.cmp_ok hrl hrm)
      have nl : n ≤ 1024 := by rw [hn]; exact ((Nt.rg_iff l).1 hrl).1
      have nm : n' ≤ 1024 := by rw [hn']; exact ((Nt.rg_iff m).1 hrm).1
      obtain ⟨s0, hs0⟩ : ∃ s0 : Int, s0 = if (n : Int) < n' then -1 else if (n' : Int) < n then 1 else 0 := ⟨_, rfl⟩
      have K := Lib.hid (fun w => cmpI_any n n' s0 w hs0)
      have I0 : Hid (CmpI l m n s0) := by
        show CmpI _ _ _ _
        rw [hs0, hn, hn']; exact cmp_start hf hf' hrl hrm
      have HF := Lib.hid hf
      have HF' := Lib.hid hf'
      have H := Lib.hid h
      have H' := Lib.hid h'
      clear h h' hn hn' hf hf' ha ha' hrl hrm hs0
      go_enter Try.func36, Try.ntmps36
      go_wp2_with (first
        | (go_at_call 60; with_reducible refine R.out.mono ?_; rintro e w2 ⟨rfl, rfl⟩)
        | (go_at_call 60; with_reducible refine R'.out.mono ?_; rintro e w2 ⟨rfl, rfl⟩)
        | (go_at_call 66; with_reducible refine (K.out _).mono ?_; rintro e w2 ⟨rfl, rfl⟩))
      go_loopw [6, 7] (fun o i wr => ∃ (k : Nat) (s : Int), k ≤ n ∧ i = .int .i64 ((k : Int) - 1) ∧ o = .int .i64 s ∧ Hid (CmpI l m k s) ∧ Qt w wr) (fun _ i _ => (intOf i + 2).toNat)
      case atStart => exact ⟨n, s0, Nat.le_refl _, by go_num, rfl, I0, Qt.refl w⟩
      case round =>
        obtain ⟨k, s, hk, rfl, rfl, I, hq⟩ := hrel
        have HQ := Lib.hid hq
        by_cases hs : s = 0
        · subst hs
          by_cases hk0 : k = 0
          · subst hk0
            have D := Lib.hid (cmp_done I.out (Or.inr rfl))
            clear hq
            go_wp2
            go_ret2
            exact ⟨ret_ii (by rw [E.out.1]; exact D.out) E.out.2.symm, HQ.out⟩
          · obtain ⟨j, rfl⟩ : ∃ j, k = j + 1 := ⟨k - 1, by omega⟩
            have hm' : j < n' := by
              rcases I.out with ⟨_, e, _⟩ | ⟨e, _⟩
              · have := HN.out; have := HN'.out; omega
              · exact absurd rfl e
            rcases H.out with h0 | ⟨b, off, rfl, hc⟩
            · exfalso; have := HN.out; rw [h0] at this; simp at this; omega
            rcases H'.out with h0 | ⟨b', off', rfl, hc'⟩
            · exfalso; have := HN'.out; rw [h0] at this; simp at this; omega
            have c1 := hq.cell (hc j (by have := HN.out; omega))
            have c2 := hq.cell (hc' j (by have := HN'.out; omega))
            obtain ⟨x, hx⟩ : ∃ x, x = l.getD j 0 := ⟨_, rfl⟩
            obtain ⟨y, hy⟩ : ∃ y, y = m.getD j 0 := ⟨_, rfl⟩
            rw [← hx] at c1
            rw [← hy] at c2
            obtain ⟨s, hs⟩ : ∃ s : Int, s = if x < y then -1 else if y < x then 1 else 0 := ⟨_, rfl⟩
            have K2 := Lib.hid (fun w => cmpU_any x y s w hs)
            have I2 := Lib.hid (cmp_step HF.out HF'.out I.out hx hy hs)
            have ej : ((j + 1 : Nat) : Int) - 1 = (j : Int) := by omega
            clear hx hy hs hc hc' hq
            rw [ej]
            go_wp2
            go_quiet ((go_at_call 67; with_reducible exact quiet_sym (K2.out _)))
            go_wp2
            refine ⟨⟨j, s, by omega, rfl, rfl, I2, HQ.out.trans ⟨nq, rfl⟩⟩, ?_⟩
            simp [intOf]; omega
        · have D := Lib.hid (cmp_done I.out (Or.inl hs))
          have sb : (s == 0) = false := by rw [beq_eq_false_iff_ne]; exact hs
          clear hq
          by_cases hk0 : k = 0
          · subst hk0
            go_wp2
            go_ret2
            exact ⟨ret_ii (by rw [E.out.1]; exact D.out) E.out.2.symm, HQ.out⟩
          · obtain ⟨j, rfl⟩ : ∃ j, k = j + 1 := ⟨k - 1, by omega⟩
            have ej : ((j + 1 : Nat) : Int) - 1 = (j : Int) := by omega
            rw [ej]
            go_wp2
            go_ret2
            exact ⟨ret_ii (by rw [E.out.1]; exact D.out) E.out.2.symm, HQ.out⟩
end Go.Proofs.Ytjfopggpohakkaa
