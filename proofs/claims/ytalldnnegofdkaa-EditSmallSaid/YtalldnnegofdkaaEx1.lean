/- The contracts of ones and kinds. -/
import Derived.Test.YtalldnnegofdkaaEq
namespace Go.Proofs.Ytalldnnegofdkaa
open Go.RowKit Go.Shelf

set_option maxRecDepth 100000 in
set_option maxHeartbeats 1600000 in
theorem ones_any (w : World) : Calls Try.prog 14 #[] w fun e w' => e = .returned (cv ⟨1, 1, 1, 1⟩) ∧ Below w.heap.size w w' := by
  go_enter Try.func14, Try.ntmps14
  go_wp2
  exact bodyPost_ret (v := cv ⟨1, 1, 1, 1⟩) (by simp [results, Try.results14, go_sem]) rfl ⟨rfl, (Below.refl _ _).alloc (Nat.le_refl _) _⟩
namespace Ed
/-- The script of some kinds, with bytes for those that write one. -/
def klf : Bs → List Nat → List Op
  | _, [] => []
  | u, k :: ks => if (k = 2 ∨ k = 5) ∧ u ≠ [] then ⟨k, u.headD 0⟩ :: klf u.tail ks else ⟨k, 0⟩ :: klf u ks
theorem klf_one {k : Nat} {u : Bs} {ks : List Nat} (h : (k = 2 ∨ k = 5) ∧ u ≠ []) : klf u (k :: ks) = ⟨k, u.headD 0⟩ :: klf u.tail ks := by
  show (if (k = 2 ∨ k = 5) ∧ u ≠ [] then _ else _) = _
  rw [if_pos h]
theorem klf_no {k : Nat} {u : Bs} {ks : List Nat} (h : ¬ ((k = 2 ∨ k = 5) ∧ u ≠ [])) : klf u (k :: ks) = ⟨k, 0⟩ :: klf u ks := by
  show (if (k = 2 ∨ k = 5) ∧ u ≠ [] then _ else _) = _
  rw [if_neg h]
end Ed
/-- A slice that reads as kinds. -/
def Kb (w : World) (v : Value) (ks : List Nat) : Prop := ∃ g c, v = .slice (some ⟨g, 0, none⟩) ks.length c ∧ ∀ j (hj : j < ks.length), w.cell? ⟨g, j, none⟩ = some (.int .u8 (ks[j] : Nat))
theorem Kb.below {w w' : World} {v : Value} {ks : List Nat} (h : Kb w v ks) (b : Below w.heap.size w w') : Kb w' v ks := by
  obtain ⟨g, c, e, h⟩ := h
  exact ⟨g, c, e, fun j hj => below_cell b (h j hj)⟩
set_option maxRecDepth 100000 in
set_option maxHeartbeats 3200000 in
theorem kinds_any (u : Ed.Bs) (ks : List Nat) (v : Value) (w : World) (hk : Kb w v ks) (hl : ks.length ≤ 1000) (hu : u.length ≤ 1000) :
    Calls Try.prog 25 #[sb u, v] w fun e w' => ∃ v', e = .returned v' ∧ Oo w w' v' (Ed.klf u ks) := by
  obtain ⟨g, cp, rfl, hc⟩ := hk
  obtain ⟨n, hn⟩ : ∃ n, n = ks.length := ⟨_, rfl⟩
  have HN := Lib.hid hn
  have HC := Lib.hid hc
  rw [← hn] at hl ⊢
  clear hc hn
  go_enter Try.func25, Try.ntmps25
  go_wp2
  go_loopw [0, 5, 6] (fun b o iv wr => ∃ (k : Nat) (t : Ed.Bs) (l : List Ed.Op), k ≤ n ∧ iv = .int .i64 k ∧ b = sb t ∧ t.length ≤ 1000 ∧ l.length = k ∧ Hid (Oo w wr o l) ∧ Hid (l ++ Ed.klf t (ks.drop k) = Ed.klf u ks)) (fun _ _ iv _ => n - (intOf iv).toNat)
  case atStart => exact ⟨0, u, [], Nat.zero_le _, rfl, rfl, hu, rfl, Oo.start (Below.refl _ _), rfl⟩
  case round =>
    obtain ⟨k, t, l, hkn, rfl, rfl, ht, hlk, O, E⟩ := hrel
    by_cases hlt : k < n
    · have kl : k < ks.length := by rw [← HN.out]; exact hlt
      have x0 := (O.out.bl.cell (World.block_lt_of_cell? _ _ (HC.out k kl))).trans (HC.out k kl)
      have E2 := E.out
      rw [List.drop_eq_getElem_cons kl] at E2
      obtain ⟨p, hp⟩ : ∃ p, p = ks[k] := ⟨_, rfl⟩
      rw [← hp] at x0 E2
      have x1 := fun o => cell_in o x0
      clear hp E
      have LL : l.length ≤ 1000000 := by omega
      by_cases hp : (p = 2 ∨ p = 5) ∧ t ≠ []
      · match t, hp.2 with
        | x :: t, _ =>
          rw [Ed.klf_one hp] at E2
          have HE : Hid ((l ++ [⟨p, x⟩]) ++ Ed.klf t (ks.drop (k + 1)) = Ed.klf u ks) := by show _ = _; rw [← E2, List.append_assoc]; rfl
          have XE : Hid ((⟨(x :: t).toArray⟩ : ByteArray).extract 1 (t.length + 1) = ⟨t.toArray⟩) := by
            show _ = _
            rw [Ed.extract_is]
            show (⟨(t.take (t.length + 1 - 1)).toArray⟩ : ByteArray) = _
            rw [List.take_of_length_le (by omega)]
          have L : 0 < (⟨(x :: t).toArray⟩ : ByteArray).size := by rw [Ed.size_is]; simp
          have L1 : 1 ≤ (⟨(x :: t).toArray⟩ : ByteArray).size := L
          have G : (⟨(x :: t).toArray⟩ : ByteArray)[0] = x := rfl
          have ht' : t.length ≤ 1000 := by simp at ht; omega
          have O1 := Lib.hid fun o1 o2 => (O.out.alloc o1).alloc o2
          clear E2
          by_cases hp2 : p = 2
          · subst hp2
            clear hp
            go_wp2_with (at_builtin; refine wp_pusho rfl _ _ rfl _ _ rfl (O1.out _ _) ⟨2, x⟩ (wr.heap.size + 1) 1 rfl ?_ LL ?_)
            · intro q z hz
              match q, hz with
              | 0, hz => exact cell_at _ _ _ 0 _ _ (by simp) hz
              | 1, hz => exact cell_at _ _ _ 1 _ _ (by simp) hz
              | q + 2, hz => simp [ocells] at hz
            · intro v' w7 O7
              have OH := Lib.hid O7
              clear O7
              go_wp2
              go_roundw
              case rel => exact ⟨k + 1, t, l ++ [(⟨2, x⟩ : Ed.Op)], by omega, by go_num, by rw [XE.out], ht', by simp; omega, OH.out, HE.out⟩
              case measure => simp [intOf]; omega
          · obtain rfl : p = 5 := by omega
            clear hp hp2
            go_wp2_with (at_builtin; refine wp_pusho rfl _ _ rfl _ _ rfl (O1.out _ _) ⟨5, x⟩ (wr.heap.size + 1) 1 rfl ?_ LL ?_)
            · intro q z hz
              match q, hz with
              | 0, hz => exact cell_at _ _ _ 0 _ _ (by simp) hz
              | 1, hz => exact cell_at _ _ _ 1 _ _ (by simp) hz
              | q + 2, hz => simp [ocells] at hz
            · intro v' w7 O7
              have OH := Lib.hid O7
              clear O7
              go_wp2
              go_roundw
              case rel => exact ⟨k + 1, t, l ++ [(⟨5, x⟩ : Ed.Op)], by omega, by go_num, by rw [XE.out], ht', by simp; omega, OH.out, HE.out⟩
              case measure => simp [intOf]; omega
      · rw [Ed.klf_no hp] at E2
        have HE : Hid ((l ++ [⟨p, 0⟩]) ++ Ed.klf t (ks.drop (k + 1)) = Ed.klf u ks) := by show _ = _; rw [← E2, List.append_assoc]; rfl
        have O1 := Lib.hid fun o1 o2 => (O.out.alloc o1).alloc o2
        clear E2
        by_cases hpp : p = 2 ∨ p = 5
        · obtain rfl : t = [] := Classical.byContradiction fun e => hp ⟨hpp, e⟩
          by_cases hp2 : p = 2
          · subst hp2
            clear hp hpp
            go_wp2_with (at_builtin; refine wp_pusho rfl _ _ rfl _ _ rfl (O1.out _ _) ⟨2, 0⟩ (wr.heap.size + 1) 1 rfl ?_ LL ?_)
            · intro q z hz
              match q, hz with
              | 0, hz => exact cell_at _ _ _ 0 _ _ (by simp) hz
              | 1, hz => exact cell_at _ _ _ 1 _ _ (by simp) hz
              | q + 2, hz => simp [ocells] at hz
            · intro v' w7 O7
              have OH := Lib.hid O7
              clear O7
              go_wp2
              go_roundw
              case rel => exact ⟨k + 1, [], l ++ [(⟨2, 0⟩ : Ed.Op)], by omega, by go_num, rfl, by simp, by simp; omega, OH.out, HE.out⟩
              case measure => simp [intOf]; omega
          · obtain rfl : p = 5 := by omega
            clear hp hpp hp2
            go_wp2_with (at_builtin; refine wp_pusho rfl _ _ rfl _ _ rfl (O1.out _ _) ⟨5, 0⟩ (wr.heap.size + 1) 1 rfl ?_ LL ?_)
            · intro q z hz
              match q, hz with
              | 0, hz => exact cell_at _ _ _ 0 _ _ (by simp) hz
              | 1, hz => exact cell_at _ _ _ 1 _ _ (by simp) hz
              | q + 2, hz => simp [ocells] at hz
            · intro v' w7 O7
              have OH := Lib.hid O7
              clear O7
              go_wp2
              go_roundw
              case rel => exact ⟨k + 1, [], l ++ [(⟨5, 0⟩ : Ed.Op)], by omega, by go_num, rfl, by simp, by simp; omega, OH.out, HE.out⟩
              case measure => simp [intOf]; omega
        · have e2 : ((p : Int) == 2) = false := beq_eq_false_iff_ne.2 (by omega)
          have e5 : ((p : Int) == 5) = false := beq_eq_false_iff_ne.2 (by omega)
          clear hp hpp
          go_wp2_with (at_builtin; refine wp_pusho rfl _ _ rfl _ _ rfl (O1.out _ _) ⟨p, 0⟩ (wr.heap.size + 1) 1 rfl ?_ LL ?_)
          · intro q z hz
            match q, hz with
            | 0, hz => exact cell_at _ _ _ 0 _ _ (by simp) hz
            | 1, hz => exact cell_at _ _ _ 1 _ _ (by simp) hz
            | q + 2, hz => simp [ocells] at hz
          · intro v' w7 O7
            have OH := Lib.hid O7
            clear O7
            go_wp2
            go_roundw
            case rel => exact ⟨k + 1, t, l ++ [(⟨p, 0⟩ : Ed.Op)], by omega, by go_num, rfl, ht, by simp; omega, OH.out, HE.out⟩
            case measure => simp [intOf]; omega
    · have EE : Hid (Oo w wr u5 (Ed.klf u ks)) := by
        have h := E.out
        rw [List.drop_of_length_le (by rw [← HN.out]; omega)] at h
        have h2 : l = Ed.klf u ks := by rw [← h]; unfold Ed.klf; simp
        show Oo _ _ _ _
        rw [← h2]; exact O.out
      go_wp2
      go_ret
      exact ⟨_, rfl, EE.out⟩
end Go.Proofs.Ytalldnnegofdkaa
