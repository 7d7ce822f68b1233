/- Few; words that New refuses, as LexiconFound counts them. -/
import Derived.Test.YtkhgjjbiifbfgaaLf7
namespace Go.Proofs.Ytkhgjjbiifbfgaa
open Go.RowKit Go.Shelf

namespace Lx
open Ed (Bs Cs)
def few (ws : List Bs) : Bool := (ws.all fun x => decide (x.length ≤ 70)) && decide (ws.length ≤ 200)
theorem few_iff (ws : List Bs) : few ws = true ↔ (∀ x ∈ ws, x.length ≤ 70) ∧ ws.length ≤ 200 := by
  unfold few
  rw [Bool.and_eq_true, List.all_eq_true]
  simp
/-- A word is wrong, or it is there already. -/
def badW (ws : List Bs) (k : Nat) : Bool := (ws.getD k []).isEmpty || decide (40 < (ws.getD k []).length) || decide (ws.getD k [] ∈ ws.take k)
def badN (ws : List Bs) : Nat → Bool
  | 0 => false
  | k + 1 => badN ws k || badW ws k
theorem good_app {l : List Bs} {x : Bs} (h : Good (l ++ [x])) : Good l ∧ x ∉ l ∧ x ≠ [] ∧ x.length ≤ 40 := by
  have nd := List.nodup_append.1 h.nd
  exact ⟨⟨nd.1, fun y hy => h.ne y (List.mem_append_left _ hy), fun y hy => h.le y (List.mem_append_left _ hy)⟩, fun hm => nd.2.2 x hm x (by simp) rfl, h.ne x (by simp), h.le x (by simp)⟩
theorem badN_iff (ws : List Bs) : ∀ k, k ≤ ws.length → (badN ws k = false ↔ Good (ws.take k))
  | 0, _ => by simp [badN, Good.nil]
  | k + 1, hk => by
    have hkl : k < ws.length := by omega
    have ih := badN_iff ws k (by omega)
    have TK : ws.take (k + 1) = ws.take k ++ [ws[k]] := (List.take_append_getElem hkl).symm
    unfold badN badW
    rw [Bool.or_eq_false_iff, Bool.or_eq_false_iff, Bool.or_eq_false_iff, ih, TK, getD_is hkl, decide_eq_false_iff_not, decide_eq_false_iff_not]
    constructor
    · rintro ⟨h1, ⟨h2, h3⟩, h4⟩
      exact h1.snoc h4 (by simpa using h2) (by omega)
    · intro h
      obtain ⟨h1, h2, h3, h4⟩ := good_app h
      exact ⟨h1, ⟨by simpa using h3, by omega⟩, h2⟩
theorem bad_wrong (ws : List Bs) : badN ws ws.length = !(decide (wrong [] ws = 0)) := by
  have h1 := badN_iff ws ws.length (Nat.le_refl _)
  have h2 := wrong_good ws [] Good.nil
  rw [List.take_length] at h1
  rw [List.nil_append] at h2
  cases e : badN ws ws.length with
  | false => rw [decide_eq_true (h2.2 (h1.1 e))]; rfl
  | true =>
    rw [decide_eq_false (fun h => by rw [h1.2 (h2.1 h)] at e; cases e)]; rfl
end Lx
set_option maxRecDepth 100000 in
set_option maxHeartbeats 1600000 in
theorem few_any (v : Value) (ws : List Ed.Bs) (w : World) (h : Tx w v ws) (hn : ws.length ≤ 9223372036854775807) : Calls Try.prog 8 #[v] w fun e w' => e = .returned (.bool (Lx.few ws)) ∧ w = w' := by
  obtain ⟨a, c, rfl, h⟩ := h
  have H := Lib.hid h
  obtain ⟨n, hn'⟩ : ∃ n, n = ws.length := ⟨_, rfl⟩
  have HN := Lib.hid hn'
  rw [← hn'] at hn ⊢
  clear h hn'
  go_enter Try.func8, Try.ntmps8
  go_wp2
  go_loop [3] (fun i => ∃ k : Nat, k ≤ n ∧ i = .int .i64 k ∧ Hid (∀ x ∈ ws.take k, x.length ≤ 70)) (fun i => n - (intOf i).toNat)
  case atStart => exact ⟨0, Nat.zero_le _, rfl, by show ∀ x ∈ _, _; intro x hx; rw [List.take_zero] at hx; cases hx⟩
  case round =>
    obtain ⟨k, hk, rfl, A⟩ := hrel
    by_cases hlt : k < n
    · have kl : k < ws.length := by rw [← HN.out]; exact hlt
      obtain ⟨b, off, rfl, g⟩ := H.out.resolve_left (by intro e; rw [e] at kl; simp at kl)
      have f0 := g k kl
      obtain ⟨x, hx⟩ : ∃ x, x = ws[k] := ⟨_, rfl⟩
      rw [← hx] at f0
      have TK : ws.take (k + 1) = ws.take k ++ [x] := by rw [hx]; exact (List.take_append_getElem kl).symm
      by_cases h70 : x.length ≤ 70
      · have A2 : Hid (∀ x ∈ ws.take (k + 1), x.length ≤ 70) := by
          show ∀ y ∈ _, _
          intro y hy
          rw [TK] at hy
          rcases List.mem_append.1 hy with hy | hy
          · exact A.out y hy
          · rw [List.mem_singleton] at hy; rw [hy]; exact h70
        clear g TK hx kl
        go_wp2
        go_round
        case rel => exact ⟨k + 1, by omega, by go_num, A2⟩
        case measure => simp [intOf]; omega
      · have E : Hid (Lx.few ws = false) := by
          show _ = _
          cases e : Lx.few ws with
          | false => rfl
          | true => exact absurd (((Lx.few_iff ws).1 e).1 x (by rw [hx]; exact List.getElem_mem kl)) h70
        clear g TK hx kl
        go_wp2
        go_ret
        exact ⟨ret_bool E.out.symm, rfl⟩
    · have hkn : k = n := by omega
      have E : Hid (Lx.few ws = decide ((n : Int) ≤ 200)) := by
        show _ = _
        have A2 := A.out
        rw [hkn, HN.out, List.take_length] at A2
        unfold Lx.few
        rw [List.all_eq_true.2 (fun x hx => by simpa using A2 x hx), Bool.true_and, HN.out, Bool.eq_iff_iff, decide_eq_true_iff, decide_eq_true_iff]
        omega
      clear hkn
      go_wp2
      go_ret
      exact ⟨ret_bool E.out.symm, rfl⟩
end Go.Proofs.Ytkhgjjbiifbfgaa
