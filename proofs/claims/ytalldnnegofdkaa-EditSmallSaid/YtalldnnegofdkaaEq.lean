/- Contracts of before, back and kinds. -/
import Derived.Test.YtalldnnegofdkaaEp
namespace Go.Proofs.Ytalldnnegofdkaa
open Go.RowKit Go.Shelf

namespace Ed
theorem bef_end {l m : List Op} (h : l = [] ∨ m = []) : bef l m = decide (l.length ≤ m.length) := by
  rcases h with rfl | rfl
  · cases m <;> rfl
  · cases l <;> rfl
end Ed
set_option maxRecDepth 100000 in
set_option maxHeartbeats 1600000 in
theorem before_any (u v : Value) (l m : List Ed.Op) (w : World) (hu : Opl w u l) (hv : Opl w v m) (hl : l.length ≤ 1000000) (_hm : m.length ≤ 1000000) : Calls Try.prog 22 #[u, v] w fun e w' => e = .returned (.bool (Ed.bef l m)) ∧ Below w.heap.size w w' := by
  obtain ⟨a1, c1, rfl, h1⟩ := hu
  obtain ⟨a2, c2, rfl, h2⟩ := hv
  obtain ⟨n1, hn1⟩ : ∃ n, n = l.length := ⟨_, rfl⟩
  obtain ⟨n2, hn2⟩ : ∃ n, n = m.length := ⟨_, rfl⟩
  have HL := Lib.hid hn1
  have HN := Lib.hid hn2
  have H1 := Lib.hid h1
  have H2 := Lib.hid h2
  rw [← hn1] at hl
  rw [← hn2] at _hm
  rw [← hn1, ← hn2]
  clear h1 h2 hn1 hn2
  go_enter Try.func22, Try.ntmps22
  go_wp2
  go_loopw [5] (fun i wr => ∃ k : Nat, k ≤ n1 ∧ k ≤ n2 ∧ i = .int .i64 k ∧ Hid (Ed.bef l m = Ed.bef (l.drop k) (m.drop k)) ∧ Hid (Below w.heap.size w wr)) (fun i _ => n1 - (intOf i).toNat)
  case atStart => exact ⟨0, Nat.zero_le _, Nat.zero_le _, rfl, rfl, Below.refl _ _⟩
  case round =>
    obtain ⟨k, hk1, hk2, rfl, E, B⟩ := hrel
    by_cases hlt : k < n1
    · by_cases hlt2 : k < n2
      · have kl : k < l.length := by rw [← HL.out]; exact hlt
        have km : k < m.length := by rw [← HN.out]; exact hlt2
        obtain ⟨b1, o1, rfl, g1⟩ := H1.out.resolve_left (by intro e; rw [e] at kl; simp at kl)
        obtain ⟨b2, o2, rfl, g2⟩ := H2.out.resolve_left (by intro e; rw [e] at km; simp at km)
        have x0 := below_cell B.out (g1 k kl).1
        have y0 := below_cell B.out (g2 k km).1
        have E2 := E.out
        rw [List.drop_eq_getElem_cons kl, List.drop_eq_getElem_cons km] at E2
        obtain ⟨p, hp⟩ : ∃ p, p = l[k].k := ⟨_, rfl⟩
        obtain ⟨q, hq⟩ : ∃ q, q = m[k].k := ⟨_, rfl⟩
        have E3 : Ed.bef l m = if p = q then Ed.bef (l.drop (k + 1)) (m.drop (k + 1)) else decide (p < q) := by rw [E2, hp, hq]; rfl
        rw [← hp] at x0
        rw [← hq] at y0
        clear hp hq E2 g1 g2 E
        by_cases hpq : p = q
        · rw [if_pos hpq] at E3
          have hb : ((p : Int) == (q : Int)) = true := beq_iff_eq.2 (by omega)
          have E4 := Lib.hid E3
          clear E3 hpq
          go_wp2
          go_quiet (fail)
          go_wp2
          go_roundw
          case rel => exact ⟨k + 1, by omega, by omega, by go_num, E4.out, below_drewN B.out _⟩
          case measure => simp [intOf]; omega
        · rw [if_neg hpq] at E3
          have hb : ((p : Int) == (q : Int)) = false := beq_eq_false_iff_ne.2 (by omega)
          have E4 := Lib.hid E3
          clear E3 hpq
          go_wp2
          go_quiet (fail)
          go_wp2
          go_quiet (fail)
          go_wp2
          go_ret
          refine ⟨ret_bool ?_, below_drewN (below_drewN B.out _) _⟩
          rw [E4.out]
      · have E5 : Hid (Ed.bef l m = decide (n1 ≤ n2)) := by
          show _ = _
          rw [E.out, Ed.bef_end (Or.inr (List.drop_of_length_le (by rw [← HN.out]; omega))), List.length_drop, List.length_drop, ← HL.out, ← HN.out]
          congr 1
          apply propext; omega
        go_wp2
        go_ret
        refine ⟨ret_bool ?_, B.out⟩
        rw [E5.out]
    · have E5 : Hid (Ed.bef l m = decide (n1 ≤ n2)) := by
        show _ = _
        rw [E.out, Ed.bef_end (Or.inl (List.drop_of_length_le (by rw [← HL.out]; omega))), List.length_drop, List.length_drop, ← HL.out, ← HN.out]
        congr 1
        apply propext; omega
      go_wp2
      go_ret
      refine ⟨ret_bool ?_, B.out⟩
      rw [E5.out]
end Go.Proofs.Ytalldnnegofdkaa
