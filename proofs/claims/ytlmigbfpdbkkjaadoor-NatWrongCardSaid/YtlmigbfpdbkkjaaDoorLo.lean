/- Contracts of CopyLimbs and number that tell that the row is the call's own. -/
import Derived.Test.YtlmigbfpdbkkjaaDoorLn
import Derived.Test.YtlmigbfpdbkkjaaDoorTd
namespace Go.Proofs.YtlmigbfpdbkkjaaDoor
open Go.RowKit

theorem Qt.size {w w' : World} (h : Qt w w') : w'.heap.size = w.heap.size := by obtain ⟨q, rfl⟩ := h; rfl
set_option maxHeartbeats 1600000 in
theorem copy_own (a : Option Addr) (n c : Nat) (l : List Nat) (w : World) (h : Lm w (.slice a n c) l) (hl : n ≤ 1000000) :
    Calls Tryd.prog 31 #[.slice a n c] w fun e w' => ∃ a' c', e = .returned (.slice a' n c') ∧ Rl w.heap.size w' a' n c' l ∧ Below w.heap.size w w' := by
  obtain ⟨a0, c0, e, hf, ha, _, h⟩ := h
  obtain ⟨rfl, hn, rfl⟩ := Value.slice.inj e
  have HN := Lib.hid hn
  have HF := Lib.hid hf
  obtain ⟨i0, hi, hz0, hz1, hz2⟩ := info_parts info_limb
  have CC := Lib.hid (cv_cells h)
  have LL : Hid ((cv l).length = n * 1) := by show _ = _; rw [cv_len, Nat.mul_one, hn]
  have HO := Lib.hid (cv_one l)
  clear e hn hf
  cases a with
  | none =>
    obtain rfl := ha rfl
    have h0 : Hid (l = []) := by
      rcases h with h | ⟨b, off, h, _⟩
      · exact h
      · cases h
    have n0 : n = 0 := by rw [HN.out, h0.out]; rfl
    subst n0
    clear h ha
    go_enter Tryd.func31, Tryd.ntmps31
    go_wp2
    go_ret
    exact ⟨_, _, rfl, by rw [h0.out]; exact ⟨rfl, Nt.fit_nil, Or.inl ⟨rfl, rfl, rfl⟩⟩, Below.refl _ _⟩
  | some ad =>
    clear h ha
    go_enter Tryd.func31, Tryd.ntmps31
    go_wp2_with (at_builtin; refine wpList_append_own _ rfl _ _ 22 rfl w.heap.size 48 i0 (.int .u32 0) 1 4 Tryd.underlying22 hi hz0 hz1 hz2 rfl (by decide) _ 0 [] rfl (World.ownsRow_nil w _ 48 1) ad n c (cv l) rfl LL.out (CC.out ad rfl) HO.out (by unfold maxLen; omega) (by omega) (Nat.le_refl _) ?_; intro v' w1 hown hgrow _)
    rw [Nat.zero_add, List.nil_append] at hown
    have hb : Below w.heap.size w w1 := (Below.refl _ w).grown hgrow (Nat.le_refl _) (fun g hg => by cases hg)
    obtain ⟨a', c', rfl, hS⟩ := own_rl HN.out HF.out hown
    have HS := Lib.hid hS
    have HB := Lib.hid hb
    clear hown hgrow hS hb
    go_wp2
    go_ret
    exact ⟨_, _, rfl, HS.out, HB.out⟩
set_option maxRecDepth 100000 in
set_option maxHeartbeats 1600000 in
theorem number_own (v : Value) (l : List Nat) (most : Nat) (w : World) (h : Lm w v l) (hm : most ≤ 1024) (hl : l.length ≤ 9223372036854775807) :
    Calls Tryd.prog 14 #[v, .int .i64 most] w fun e w' => ∃ a n c, e = .returned (.slice a n c) ∧ Rl w.heap.size w' a n c (Nt.num l most) ∧ Below w.heap.size w w' := by
  have L0 := h
  obtain ⟨a, c, rfl, -, -, hcap, -⟩ := h
  obtain ⟨n, hn⟩ : ∃ n, n = l.length := ⟨_, rfl⟩
  rw [← hn] at hl L0 hcap ⊢
  obtain ⟨t, ht⟩ : ∃ t, t = l.take most := ⟨_, rfl⟩
  have L1 := fun k hk => L0.take k hk
  have NE : Nt.num l most = Nt.dig (Nt.val t) := by rw [ht]; rfl
  rw [NE]
  clear NE L0
  by_cases hnm : n ≤ most
  · have et : t = l.take n := by rw [ht, List.take_of_length_le (by omega), List.take_of_length_le (by omega)]
    have hK : n = t.length := by rw [et, List.length_take]; omega
    have L2 := L1 n (Nat.le_refl _)
    rw [← et] at L2
    clear et L1 ht hn
    have T : Hid (Lm w (.slice a n c) t) := L2
    have HT : Hid (n = t.length) := hK
    clear L2 hK
    have MN : min (n : Int) (most : Int) = (n : Int) := by omega
    go_enter Tryd.func14, Tryd.ntmps14
    go_wp2
    go_loopw [0] (fun v wr => ∃ k : Nat, k ≤ n ∧ v = .slice a k c ∧ Nt.val (t.take k) = Nt.val t ∧ Qt w wr) (fun v _ => slen v)
    case atStart => exact ⟨n, Nat.le_refl _, rfl, by rw [HT.out, List.take_length], Qt.refl w⟩
    case round =>
      obtain ⟨k, hk, rfl, hv, hq⟩ := hrel
      have HV := Lib.hid hv
      have HQ := Lib.hid hq
      have TK := Lib.hid ((T.out.take k hk).below hq.bl)
      have KL : Hid (k = (t.take k).length) := by show _ = _; rw [List.length_take, ← HT.out]; omega
      clear hv
      by_cases k0 : k = 0
      · have FIN : Hid (t.take k = Nt.dig (Nt.val t)) := Pos.take_dig Nt.two_B T.out.fit HV.out (Or.inl k0)
        subst k0
        have CP := Lib.hid (copy_own a 0 c (t.take 0) wr TK.out (by omega))
        rw [FIN.out] at CP
        clear hq
        go_wp2_with (go_at_call 31; refine CP.out.mono ?_; rintro e w1 ⟨a1, c1, rfl, l1, b1⟩)
        go_ret
        exact ⟨_, _, _, rfl, HQ.out.size ▸ l1, HQ.out.bl.trans (b1.mono HQ.out.bl.size)⟩
      · obtain ⟨_, _, e2, _, _, _, hc⟩ := TK.out
        obtain ⟨rfl, hbad, rfl⟩ := Value.slice.inj e2
        rcases hc with hc | ⟨b, off, rfl, hc⟩
        · exfalso; have := KL.out; rw [hc] at this; simp at this; omega
        have hx0 := hc (k - 1) (by have := KL.out; omega)
        rw [List.getD_eq_getElem?_getD, List.getElem?_take_of_lt (by omega), ← List.getD_eq_getElem?_getD] at hx0
        obtain ⟨j, rfl⟩ : ∃ j, k = j + 1 := ⟨k - 1, by omega⟩
        rw [Nat.add_sub_cancel] at hx0
        obtain ⟨x, hx⟩ : ∃ x, x = t.getD j 0 := ⟨_, rfl⟩
        rw [← hx] at hx0
        have HX := Lib.hid hx
        clear hx hc e2 hq hbad
        by_cases x0 : x = 0
        · have NV : Hid (Nt.val (t.take j) = Nt.val t) := by
            show _ = _
            rw [← HV.out]; exact (Pos.val_take_zero (by rw [← HX.out, x0])).symm
          subst x0
          go_wp2
          go_roundw
          case rel => exact ⟨j, by omega, rfl, NV.out, HQ.out⟩
          case measure => simp [slen]
        · have FIN : Hid (t.take (j + 1) = Nt.dig (Nt.val t)) := Pos.take_dig Nt.two_B T.out.fit HV.out (Or.inr ⟨by rw [← HT.out]; omega, by rw [Nat.add_sub_cancel, ← HX.out]; exact x0⟩)
          have CP := Lib.hid (copy_own _ (j + 1) c _ wr TK.out (by omega))
          rw [FIN.out] at CP
          go_wp2_with (go_at_call 31; refine CP.out.mono ?_; rintro e w1 ⟨a1, c1, rfl, l1, b1⟩)
          go_ret
          exact ⟨_, _, _, rfl, HQ.out.size ▸ l1, HQ.out.bl.trans (b1.mono HQ.out.bl.size)⟩
  · have hK : most = t.length := by rw [ht, List.length_take]; omega
    have L2 := L1 most (by omega)
    rw [← ht] at L2
    clear L1 ht hn
    have T : Hid (Lm w (.slice a most c) t) := L2
    have HT : Hid (most = t.length) := hK
    clear L2 hK
    have MN : min (n : Int) (most : Int) = (most : Int) := by omega
    go_enter Tryd.func14, Tryd.ntmps14
    go_wp2
    go_loopw [0] (fun v wr => ∃ k : Nat, k ≤ most ∧ v = .slice a k c ∧ Nt.val (t.take k) = Nt.val t ∧ Qt w wr) (fun v _ => slen v)
    case atStart => exact ⟨most, Nat.le_refl _, rfl, by rw [HT.out, List.take_length], Qt.refl w⟩
    case round =>
      obtain ⟨k, hk, rfl, hv, hq⟩ := hrel
      have HV := Lib.hid hv
      have HQ := Lib.hid hq
      have TK := Lib.hid ((T.out.take k hk).below hq.bl)
      have KL : Hid (k = (t.take k).length) := by show _ = _; rw [List.length_take, ← HT.out]; omega
      clear hv
      by_cases k0 : k = 0
      · have FIN : Hid (t.take k = Nt.dig (Nt.val t)) := Pos.take_dig Nt.two_B T.out.fit HV.out (Or.inl k0)
        subst k0
        have CP := Lib.hid (copy_own a 0 c (t.take 0) wr TK.out (by omega))
        rw [FIN.out] at CP
        clear hq
        go_wp2_with (go_at_call 31; refine CP.out.mono ?_; rintro e w1 ⟨a1, c1, rfl, l1, b1⟩)
        go_ret
        exact ⟨_, _, _, rfl, HQ.out.size ▸ l1, HQ.out.bl.trans (b1.mono HQ.out.bl.size)⟩
      · obtain ⟨_, _, e2, _, _, _, hc⟩ := TK.out
        obtain ⟨rfl, hbad, rfl⟩ := Value.slice.inj e2
        rcases hc with hc | ⟨b, off, rfl, hc⟩
        · exfalso; have := KL.out; rw [hc] at this; simp at this; omega
        have hx0 := hc (k - 1) (by have := KL.out; omega)
        rw [List.getD_eq_getElem?_getD, List.getElem?_take_of_lt (by omega), ← List.getD_eq_getElem?_getD] at hx0
        obtain ⟨j, rfl⟩ : ∃ j, k = j + 1 := ⟨k - 1, by omega⟩
        rw [Nat.add_sub_cancel] at hx0
        obtain ⟨x, hx⟩ : ∃ x, x = t.getD j 0 := ⟨_, rfl⟩
        rw [← hx] at hx0
        have HX := Lib.hid hx
        clear hx hc e2 hq hbad
        by_cases x0 : x = 0
        · have NV : Hid (Nt.val (t.take j) = Nt.val t) := by
            show _ = _
            rw [← HV.out]; exact (Pos.val_take_zero (by rw [← HX.out, x0])).symm
          subst x0
          go_wp2
          go_roundw
          case rel => exact ⟨j, by omega, rfl, NV.out, HQ.out⟩
          case measure => simp [slen]
        · have FIN : Hid (t.take (j + 1) = Nt.dig (Nt.val t)) := Pos.take_dig Nt.two_B T.out.fit HV.out (Or.inr ⟨by rw [← HT.out]; omega, by rw [Nat.add_sub_cancel, ← HX.out]; exact x0⟩)
          have CP := Lib.hid (copy_own _ (j + 1) c _ wr TK.out (by omega))
          rw [FIN.out] at CP
          go_wp2_with (go_at_call 31; refine CP.out.mono ?_; rintro e w1 ⟨a1, c1, rfl, l1, b1⟩)
          go_ret
          exact ⟨_, _, _, rfl, HQ.out.size ▸ l1, HQ.out.bl.trans (b1.mono HQ.out.bl.size)⟩
end Go.Proofs.YtlmigbfpdbkkjaaDoor
