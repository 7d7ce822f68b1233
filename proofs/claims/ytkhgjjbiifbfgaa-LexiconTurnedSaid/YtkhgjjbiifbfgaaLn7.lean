/- New. -/
import Derived.Test.YtkhgjjbiifbfgaaLz
namespace Go.Proofs.Ytkhgjjbiifbfgaa
open Go.RowKit

variable {B X N : Nat} {w w' : World} {ws : List Ed.Bs}
theorem Lex.start {w w1 : World} {b m : Nat} (F : Fresh w w1 b m) (t : TypeId) : Lex w.heap.size w1.heap.size (w1.alloc (.cells #[.slice none 0 0, nd b] t)) [] := by
  refine ⟨fun p => if p = [] then some (b, m) else none, fun _ => -1, 0, (b, m), .slice none 0 0, Nat.zero_le _, ?_⟩
  have lb := World.block_lt_of_cell? _ _ F.c0
  have T : Tr w.heap.size w1 (fun p => if p = [] then some (b, m) else none) (fun _ => -1) 0 := by
    refine ⟨fun p q x y hx hy _ => ?_, fun p x hx => ?_, fun p x hx => ?_, fun p x hx => ?_, fun p x hx => ?_, fun p x hx => ?_⟩
    · split at hx
      · split at hy
        · rename_i e1 e2; rw [e1, e2]
        · cases hy
      · cases hx
    all_goals
      split at hx
      · rename_i e
        cases hx
        first
          | exact ⟨F.lb, F.lm⟩
          | exact F.c0
          | exact F.c1
          | exact F.fz
          | exact ⟨_, 0, Nat.le_refl _, F.mp, ⟨⟨_, rfl⟩, fun c => by rw [e]; rfl, fun c => by rw [e]; rfl⟩⟩
      · cases hx
  exact {
    tr := T.quiet ((Below.refl _ _).alloc (Nat.le_refl _) _)
    root := rfl
    dom := fun p => by
      unfold Lx.Begun
      by_cases e : p = []
      · rw [if_pos e]; exact ⟨fun _ => Or.inl e, fun _ => rfl⟩
      · rw [if_neg e]
        refine ⟨fun h => (by cases h), fun h => ?_⟩
        rcases h with h | ⟨x, hx, _⟩
        · exact absurd h e
        · cases hx
    nums := Lx.Nums.nil
    good := Lx.Good.nil
    x0 := cell_at _ _ _ 0 _ _ rfl rfl
    x1 := cell_at _ _ _ 1 _ _ rfl rfl
    fx := by simp
    hX := F.bl.size
    own := World.ownsRow_nil _ _ _ _
    sX := fun p x hx => by
      split at hx
      · cases hx; simp at lb ⊢; omega
      · cases hx
    sv := fun g hg => by cases hg }
set_option maxRecDepth 100000 in
set_option maxHeartbeats 3200000 in
theorem new_any (v : Value) (ws : List Ed.Bs) (w : World) (h : Tx w v ws) (hn : ws.length ≤ 1000) (hx : ∀ x ∈ ws, x.length ≤ 9223372036854775807) :
    Calls Try.prog 10 #[v] w fun e w' => Below w.heap.size w w' ∧ ((Lx.wrong [] ws = 0 ∧ ∃ X, e = .returned (.tuple #[nd X, .int .i64 0]) ∧ Lex w.heap.size X w' ws) ∨ (Lx.wrong [] ws ≠ 0 ∧ e = .returned (.tuple #[.pointer none, .int .i64 (Lx.wrong [] ws)]))) := by
  obtain ⟨p, c, rfl, hc⟩ := h
  obtain ⟨n, hn'⟩ : ∃ n, n = ws.length := ⟨_, rfl⟩
  have HN := Lib.hid hn'
  have HC := Lib.hid hc
  have HXX := Lib.hid hx
  obtain ⟨E, hE⟩ : ∃ E, E = Lx.wrong [] ws := ⟨_, rfl⟩
  have HE := Lib.hid hE
  rw [← hn'] at hn ⊢
  rw [← hE]
  clear hn' hc hx hE
  go_enter Try.func10, Try.ntmps10
  go_wp2_with (go_at_call 22; (with_reducible refine (newNode_any _).mono ?_); rintro e w1 ⟨b, m, rfl, F⟩; have HF := Lib.hid F; clear F)
  go_loopw [16] (fun i wr => ∃ k : Nat, k ≤ n ∧ i = .int .i64 k ∧ Hid (Lex w.heap.size w1.heap.size wr (ws.take k)) ∧ Hid (Below w.heap.size w wr) ∧ Hid (E = Lx.wrong (ws.take k) (ws.drop k))) (fun i _ => n - (intOf i).toNat)
  case atStart => exact ⟨0, Nat.zero_le _, rfl, by rw [List.take_zero]; exact Lex.start HF.out _, HF.out.bl.alloc HF.out.bl.size _, by rw [List.take_zero, List.drop_zero]; exact HE.out⟩
  case round =>
    obtain ⟨k, hk, rfl, L, Bl, EE⟩ := hrel
    by_cases hlt : k < n
    · have hkl : k < ws.length := by rw [← HN.out]; exact hlt
      obtain ⟨b, off, rfl, h2⟩ := HC.out.resolve_left (by intro e; rw [e] at hkl; simp at hkl)
      obtain ⟨xs, hxs⟩ : ∃ xs, xs = ws[k] := ⟨_, rfl⟩
      have f0 := (Bl.out.cell (p := ⟨b, off + k, none⟩) (World.block_lt_of_cell? _ _ (h2 k hkl))).trans (h2 k hkl)
      rw [← hxs] at f0
      have TK : ws.take (k + 1) = ws.take k ++ [xs] := by rw [hxs]; exact (List.take_append_getElem hkl).symm
      have DK := EE.out
      rw [List.drop_eq_getElem_cons hkl, ← hxs, Lx.wrong] at DK
      have tl : (ws.take k).length ≤ 1000 := by rw [List.length_take]; omega
      have hsz := Bl.out.size
      clear h2 hxs hkl EE
      by_cases h1 : xs = []
      · rw [if_pos h1] at DK
        subst h1 DK
        have A := Lib.hid (fun X w => add_none X w)
        clear TK tl hsz
        go_wp2_with (go_at_call 23; (with_reducible refine (A.out _ _).mono ?_); rintro e w3 ⟨rfl, rfl⟩)
        go_ret2
        exact ⟨Bl.out, Or.inr ⟨by omega, rfl⟩⟩
      · rw [if_neg h1] at DK
        by_cases h3 : 40 < xs.length
        · rw [if_pos h3] at DK
          subst DK
          have A := Lib.hid (fun X w => add_long X xs h3 w)
          clear TK tl hsz h1 h3
          go_wp2_with (go_at_call 23; (with_reducible refine (A.out _ _).mono ?_); rintro e w3 ⟨rfl, rfl⟩)
          go_ret2
          exact ⟨Bl.out, Or.inr ⟨by omega, rfl⟩⟩
        · rw [if_neg h3] at DK
          by_cases h4 : xs ∈ ws.take k
          · rw [if_pos h4] at DK
            subst DK
            have A := Lib.hid (add_twice L.out xs h4 hsz tl)
            clear TK tl hsz h1 h3 h4
            go_wp2_with (go_at_call 23; (with_reducible refine A.out.mono ?_); rintro e w3 ⟨rfl, b3⟩)
            go_ret2
            exact ⟨Bl.out.trans b3, Or.inr ⟨by omega, rfl⟩⟩
          · rw [if_neg h4] at DK
            have A := Lib.hid (add_ok L.out xs h4 h1 (by omega) hsz tl)
            have HD := Lib.hid DK
            have HT := Lib.hid TK
            have HD2 := Lib.hid (show ws.drop (k + 1) = ws.drop (k + 1) from rfl)
            clear TK tl hsz h1 h3 h4 DK
            go_wp2_with (go_at_call 23; (with_reducible refine A.out.mono ?_); rintro e w3 ⟨rfl, L3, b3⟩; have HL3 := Lib.hid L3; have HB3 := Lib.hid b3; clear L3 b3)
            go_roundw
            case rel => exact ⟨k + 1, by omega, by go_num, by rw [HT.out]; exact HL3.out, Bl.out.trans HB3.out, by rw [HT.out]; exact HD.out⟩
            case measure => simp [intOf]; omega
    · have hkn : k = n := by omega
      have LE := L.out
      have EZ := EE.out
      rw [hkn, HN.out, List.take_length] at LE EZ
      rw [List.drop_length] at EZ
      have HLE := Lib.hid LE
      obtain rfl : E = 0 := EZ
      clear LE hkn L EE
      go_wp2
      go_ret2
      exact ⟨Bl.out, w1.heap.size, rfl, HLE.out⟩
end Go.Proofs.Ytkhgjjbiifbfgaa
