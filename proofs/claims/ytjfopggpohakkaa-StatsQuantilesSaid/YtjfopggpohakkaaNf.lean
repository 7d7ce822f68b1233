/- Contracts of Clone, Right, Cmp, number. -/
import Derived.Test.YtjfopggpohakkaaNe
import Derived.Lib.SliceRun
namespace Go.Proofs.Ytjfopggpohakkaa
open Go.RowKit

set_option maxHeartbeats 800000 in
theorem take_none (a : Option Addr) (c t : Nat) (v : Value) (w : World) :
    Calls Try.prog 119 #[.slice a 0 c, v, .int .u32 (t : Nat)] w fun e w' => e = .returned (.int .u32 0) ∧ Below w.heap.size w w' := by
  obtain ⟨p, hp⟩ : ∃ p, p = w.heap.size := ⟨_, rfl⟩
  have A := Lib.hid (adder0_any p w hp)
  have HP := Lib.hid hp
  clear hp
  go_enter Try.func119, Try.ntmps119
  go_wp2_with (go_at_call 82; with_reducible refine A.out.mono ?_; rintro e w1 ⟨rfl, k1, b1⟩)
  have AD := Lib.hid (add0_any p 0 w1 k1)
  have HB := Lib.hid b1
  clear b1 k1
  go_loopw [8, 14] (fun s i wr => s = .int .u32 0 ∧ i = .int .i64 0 ∧ wr = w1) (fun _ _ _ => 1)
  case atStart => exact ⟨rfl, rfl, rfl⟩
  case round =>
    obtain ⟨rfl, rfl, rfl⟩ := hrel
    go_wp2_with (go_at_call 95; with_reducible refine AD.out.mono ?_; rintro e w3 ⟨rfl, k3, s3⟩)
    go_ret
    exact ⟨rfl, by rw [← HP.out]; exact Sv.below HB.out s3 (Nat.le_refl _) (by have := HB.out.size; have := HP.out; omega)⟩
set_option maxRecDepth 100000 in
set_option maxHeartbeats 1600000 in
theorem clone_any (v : Value) (l : List Nat) (w : World) (h : Lm w v l) (hl : l.length ≤ 1000000) :
    Calls Try.prog 109 #[v] w fun e w' => ∃ v', e = .returned v' ∧ w'.ownsRow w.heap.size 55 1 v' l.length (cv l) ∧ Below w.heap.size w w' := by
  obtain ⟨a, c, rfl, hf, ha, hcap, h⟩ := h
  obtain ⟨n, hn⟩ : ∃ n, n = l.length := ⟨_, rfl⟩
  rw [← hn] at hcap hl ⊢
  obtain ⟨i0, hi, hz0, hz1, hz2⟩ := info_parts info_limb
  have q22 : ∀ (w : World) (a : Option Addr) (n c n' c' : Nat), (binOp .eql 29 (.slice a n c) (.slice none n' c')).run Try.prog w = .ok (.bool a.isNone) w := fun w a n c n' c' => Lib.run_eql_slice_nil w _ _ a n c n' c' Try.underlying29
  have CC := Lib.hid (cv_cells h)
  have LL : Hid ((cv l).length = n * 1) := by show _ = _; rw [cv_len, Nat.mul_one, hn]
  have HO := Lib.hid (cv_one l)
  have HN := Lib.hid hn
  cases a with
  | none =>
    obtain rfl := ha rfl
    have n0 : n = 0 := by omega
    subst n0
    have e0 : Hid (l = []) := List.eq_nil_of_length_eq_zero hn.symm
    clear h ha hn hf
    go_enter Try.func109, Try.ntmps109
    go_wp2
    go_ret
    exact ⟨_, rfl, by rw [e0.out]; exact World.ownsRow_nil _ _ _ _, Below.refl _ _⟩
  | some ad =>
    clear h ha hn hf
    have CA : Hid (∀ j u, (cv l)[j]? = some u → (w.alloc (.cells #[] 55)).cell? (ad.add j) = some u) := by
      intro j u hj
      exact cell_in _ (CC.out ad rfl j u hj)
    clear CC
    go_enter Try.func109, Try.ntmps109
    go_wp2_with (at_builtin; refine wpList_append_own _ rfl _ _ 29 rfl w.heap.size 55 i0 (.int .u32 0) 1 4 Try.underlying29 hi hz0 hz1 hz2 rfl (by decide) _ _ _ rfl (World.ownsRow_made w #[] 0 (Nat.le_refl _) (Nat.zero_le _) rfl) ad n c (cv l) rfl LL.out CA.out HO.out (by unfold maxLen; omega) (by omega) (by simp) ?_; intro v' w1 hown hgrow _)
    go_wp2
    go_ret
    refine ⟨v', rfl, by simpa using hown, ?_⟩
    exact ((Below.refl _ w).alloc (Nat.le_refl _) _).grown hgrow (by simp) (by intro k hk; cases hk; exact Nat.le_refl _)
theorem rg_no_len {l : List Nat} (h : 1024 < l.length) : Nt.rg l = false := by
  unfold Nt.rg; exact decide_eq_false fun x => by omega
theorem rg_last {l : List Nat} {m : Nat} (h : l.length = m + 1) (hl : m + 1 ≤ 1024) : Nt.rg l = decide (l.getD m 0 ≠ 0) := by
  unfold Nt.rg
  have e : l.getLast? = some (l.getD m 0) := by
    rw [List.getLast?_eq_getElem?, h, List.getD_eq_getElem?_getD, show m + 1 - 1 = m by omega, List.getElem?_eq_getElem (by omega)]; rfl
  rw [e]
  by_cases c : l.getD m 0 = 0
  · rw [c]; simp
  · rw [decide_eq_true (p := l.getD m 0 ≠ 0) c]; exact decide_eq_true ⟨by omega, fun x => c (Option.some.inj x)⟩
set_option maxRecDepth 100000 in
set_option maxHeartbeats 800000 in
theorem right3_any (v : Value) (l : List Nat) (w : World) (h : Lm w v l) : Calls Try.prog 60 #[v] w fun e w' => e = .returned (.bool (Nt.rg l)) ∧ w = w' := by
  obtain ⟨a, c, rfl, hf, -, hcap, h⟩ := h
  obtain ⟨n, hn⟩ : ∃ n, n = l.length := ⟨_, rfl⟩
  rw [← hn] at h hcap ⊢
  have HN := Lib.hid hn
  by_cases h1 : 1024 < n
  · have R := Lib.hid (rg_no_len (l := l) (by omega))
    have D1 : decide ((n : Int) ≤ 1024) = false := decide_eq_false (by omega)
    clear h hn hf
    go_enter Try.func60, Try.ntmps60
    go_wp2
    go_ret
    exact ⟨ret_bool R.out.symm, rfl⟩
  · by_cases h0 : n = 0
    · subst h0
      have R : Hid (Nt.rg l = true) := by show _ = _; rw [List.eq_nil_of_length_eq_zero hn.symm]; exact Nt.rg_nil
      clear h hn hf
      go_enter Try.func60, Try.ntmps60
      go_wp2
      go_ret
      exact ⟨ret_bool R.out.symm, rfl⟩
    · obtain ⟨m, rfl⟩ : ∃ m, n = m + 1 := ⟨n - 1, by omega⟩
      have R := Lib.hid (rg_last hn.symm (by omega))
      rcases h with e0 | ⟨b, off, rfl, hc⟩
      · rw [e0] at hn; simp at hn
      have hck := hc m (by omega)
      obtain ⟨x, hx⟩ : ∃ x, x = l.getD m 0 := ⟨_, rfl⟩
      rw [← hx] at hck R
      clear hx hc hn hf
      by_cases hx0 : x = 0
      · subst hx0
        go_enter Try.func60, Try.ntmps60
        go_wp2
        go_ret
        exact ⟨ret_bool R.out.symm, rfl⟩
      · have D := Lib.hid (decide_eq_true (p := x ≠ 0) hx0)
        go_enter Try.func60, Try.ntmps60
        go_wp2
        go_ret
        exact ⟨ret_bool (by rw [R.out, D.out, Bool.or_eq_true, bne_iff_ne]; exact Or.inr (by omega)), rfl⟩
end Go.Proofs.Ytjfopggpohakkaa
