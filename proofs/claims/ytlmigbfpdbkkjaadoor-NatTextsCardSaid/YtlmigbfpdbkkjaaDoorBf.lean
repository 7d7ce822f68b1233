/- The reference's cmp. -/
import Derived.Test.YtlmigbfpdbkkjaaDoorBe
namespace Go.Proofs.YtlmigbfpdbkkjaaDoor
open Go.RowKit

theorem rord {x y : Nat} {s : Int} (h : (s = -1 ∧ x < y) ∨ (s = 1 ∧ y < x) ∨ (s = 0 ∧ x = y)) : s = Nt.ord x y := ord_of h
theorem bd_ok (n : Nat) : Pos.Ok 2 (Nt.bd n) := Pos.dig_ok (Nat.le_refl 2) n
set_option maxRecDepth 100000 in
set_option maxHeartbeats 1600000 in
theorem rcmp_any (v u : Value) (x y : Nat) (w : World) (h : Bt w v (Nt.bd x)) (h' : Bt w u (Nt.bd y)) (hl : (Nt.bd x).length ≤ 100000) (hm : (Nt.bd y).length ≤ 100000) :
    Calls Tryd.prog 72 #[v, u] w fun e w' => e = .returned (.int .i64 (Nt.ord x y)) ∧ Below w.heap.size w w' := by
  obtain ⟨a, c, rfl, -, -, hcap, h⟩ := h
  obtain ⟨a', c', rfl, -, -, hcap', h'⟩ := h'
  have ol := bd_ok x
  have om := bd_ok y
  have ex := Nt.bv_bd x
  have ey := Nt.bv_bd y
  unfold Nt.bv at ex ey
  obtain ⟨l, el⟩ : ∃ l, l = Nt.bd x := ⟨_, rfl⟩
  obtain ⟨m, em⟩ : ∃ m, m = Nt.bd y := ⟨_, rfl⟩
  rw [← el] at h hcap hl ol ex ⊢
  rw [← em] at h' hcap' hm om ey ⊢
  clear el em
  obtain ⟨n, hn⟩ : ∃ n, n = l.length := ⟨_, rfl⟩
  obtain ⟨k, hk⟩ : ∃ n, n = m.length := ⟨_, rfl⟩
  rw [← hn] at h hcap hl ⊢
  rw [← hk] at h' hcap' hm ⊢
  by_cases c1 : n < k
  · have R : Hid (-1 = Nt.ord x y) := rord (Or.inl ⟨rfl, by have := Pos.lt_of_len (Nat.le_refl 2) ol om (by omega); omega⟩)
    have c2 : (n : Int) < (k : Int) := by omega
    clear h h' ol om ex ey hn hk
    go_enter Tryd.func72, Tryd.ntmps72
    go_wp2
    go_ret
    exact ⟨ret_int R.out, Below.refl _ _⟩
  by_cases c3 : k < n
  · have R : Hid (1 = Nt.ord x y) := rord (Or.inr (Or.inl ⟨rfl, by have := Pos.lt_of_len (Nat.le_refl 2) om ol (by omega); omega⟩))
    have c2 : (k : Int) < (n : Int) := by omega
    clear h h' ol om ex ey hn hk
    go_enter Tryd.func72, Tryd.ntmps72
    go_wp2
    go_ret
    exact ⟨ret_int R.out, Below.refl _ _⟩
  obtain rfl : k = n := by omega
  have HN := Lib.hid hn
  have HK := Lib.hid hk
  have H := Lib.hid h
  have H' := Lib.hid h'
  have OL := Lib.hid ol
  have OM := Lib.hid om
  have EX := Lib.hid ex
  have EY := Lib.hid ey
  clear h h' ol om ex ey hn hk c1 c3
  go_enter Tryd.func72, Tryd.ntmps72
  go_wp2
  go_loopw [5] (fun i wr => ∃ t : Nat, t ≤ k ∧ i = .int .i64 ((t : Int) - 1) ∧ Hid (l.drop t = m.drop t) ∧ Qt w wr) (fun i _ => (intOf i + 1).toNat)
  case atStart => exact ⟨k, Nat.le_refl _, rfl, (show _ = _ by rw [List.drop_of_length_le (by rw [HN.out]; exact Nat.le_refl _), List.drop_of_length_le (by rw [HK.out]; exact Nat.le_refl _)]), Qt.refl w⟩
  case round =>
    obtain ⟨t, ht, rfl, HD, hq⟩ := hrel
    have HQ := Lib.hid hq
    by_cases t0 : t = 0
    · subst t0
      have R : Hid (0 = Nt.ord x y) := by
        refine rord (Or.inr (Or.inr ⟨rfl, ?_⟩))
        have e : l = m := HD.out
        rw [← EX.out, ← EY.out, e]
      clear hq
      go_wp2
      go_ret
      exact ⟨ret_int R.out, HQ.out.bl⟩
    · obtain ⟨j, rfl⟩ : ∃ j, t = j + 1 := ⟨t - 1, by omega⟩
      have ej : ((j + 1 : Nat) : Int) - 1 = (j : Int) := by omega
      rw [ej]
      clear ej
      rcases H.out with h0 | ⟨b, off, rfl, hc⟩
      · exfalso; have := HN.out; rw [h0] at this; simp at this; omega
      rcases H'.out with h0 | ⟨b', off', rfl, hc'⟩
      · exfalso; have := HK.out; rw [h0] at this; simp at this; omega
      have hck := hq.cell (hc j (by have := HN.out; omega))
      have hck' := hq.cell (hc' j (by have := HK.out; omega))
      have P1 := Nt.bit_at OL.out.1 j
      have P2 := Nt.bit_at OM.out.1 j
      have EV : Hid (Pos.val 2 (l.drop (j + 1)) = Pos.val 2 (m.drop (j + 1))) := by show _ = _; rw [HD.out]
      have C1 : Hid (l.getD j 0 < m.getD j 0 → x < y) := fun g => by
        have := Pos.val_cmp OL.out.1 (show j < l.length by have := HN.out; omega) (show j < m.length by have := HK.out; omega) EV.out g
        rw [EX.out, EY.out] at this; exact this
      have C2 : Hid (m.getD j 0 < l.getD j 0 → y < x) := fun g => by
        have := Pos.val_cmp OM.out.1 (show j < m.length by have := HK.out; omega) (show j < l.length by have := HN.out; omega) EV.out.symm g
        rw [EX.out, EY.out] at this; exact this
      have D : Hid (l.getD j 0 = m.getD j 0 → l.drop j = m.drop j) := fun g => by
        have a1 : j < l.length := by have := HN.out; omega
        have a2 : j < m.length := by have := HK.out; omega
        rw [List.drop_eq_getElem_cons a1, List.drop_eq_getElem_cons a2, HD.out]
        rw [List.getD_eq_getElem?_getD, List.getD_eq_getElem?_getD, List.getElem?_eq_getElem a1, List.getElem?_eq_getElem a2] at g
        rw [show l[j] = m[j] from g]
      obtain ⟨p, hp⟩ : ∃ p, p = l.getD j 0 := ⟨_, rfl⟩
      obtain ⟨q, hq'⟩ : ∃ p, p = m.getD j 0 := ⟨_, rfl⟩
      rw [← hp] at hck P1 C1 C2 D
      rw [← hq'] at hck' P2 C1 C2 D
      clear hc hc' hp hq' hq
      by_cases e : p = q
      · subst e
        have D' := Lib.hid (D.out rfl)
        go_wp2
        go_region
        go_wp2
        go_roundw
        case rel => exact ⟨j, by omega, by go_num, D', HQ.out.trans ⟨1, rfl⟩⟩
        case measure => simp [intOf]
      · have R : Hid ((p : Int) - (q : Int) = Nt.ord x y) := by
          refine rord ?_
          rcases Nat.lt_or_gt_of_ne e with g | g
          · exact Or.inl ⟨by omega, C1.out g⟩
          · exact Or.inr (Or.inl ⟨by omega, C2.out g⟩)
        go_wp2
        go_region
        go_wp2
        go_region
        go_wp2
        go_ret
        exact ⟨ret_int (by have := R.out; omega), HQ.out.bl.trans ((show Qt wr _ from ⟨2, rfl⟩).bl.mono HQ.out.bl.size)⟩
end Go.Proofs.YtlmigbfpdbkkjaaDoor
