/- Contracts of the statements' own helpers: number, less, same. -/
import Derived.Test.YtlmigbfpdbkkjaaDoorNc
namespace Go.Proofs.YtlmigbfpdbkkjaaDoor
open Go.RowKit

set_option maxHeartbeats 400000 in
theorem same3_any (v u : Value) (l m : List Nat) (w : World) (h : Lm w v l) (h' : Lm w u m) (hl : l.length ≤ 1000000) :
    Calls Tryd.prog 20 #[v, u] w fun e w' => e = .returned (.bool (decide (l = m))) ∧ Qt w w' := by
  have S := Lib.hid (same_any v u l m w h h' hl)
  clear h h' hl
  go_enter Tryd.func20, Tryd.ntmps20
  go_wp2_with (go_at_call 40; refine S.out.mono ?_; rintro e w' ⟨rfl, q⟩)
  go_ret
  exact ⟨rfl, q⟩
set_option maxHeartbeats 800000 in
theorem less_any {G : World → Prop} (C : NatC G) (v u : Value) (l m : List Nat) (w : World) (g : G w) (h : Lm w v l) (h' : Lm w u m) (hl : Nt.rg l = true) (hm : Nt.rg m = true) :
    Calls Tryd.prog 19 #[v, u] w fun e w' => e = .returned (.bool (decide (Nt.val l < Nt.val m))) ∧ Below w.heap.size w w' := by
  have S := Lib.hid (C.cmp v u l m w g h h')
  obtain ⟨e1, e2⟩ := Nt.cmp_ok hl hm
  rw [e1, e2] at S
  clear h h' hl hm e1 e2 C g
  by_cases c : Nt.val l < Nt.val m
  · have o : Nt.ord (Nt.val l) (Nt.val m) = -1 := by unfold Nt.ord; rw [if_pos c]
    have D := Lib.hid (decide_eq_true c)
    rw [o] at S
    clear c o
    go_enter Tryd.func19, Tryd.ntmps19
    go_wp2_with (go_at_call 23; refine S.out.mono ?_; rintro e w' ⟨rfl, b⟩)
    go_ret
    exact ⟨ret_bool D.out.symm, b⟩
  · have o : 0 ≤ Nt.ord (Nt.val l) (Nt.val m) := by unfold Nt.ord; rw [if_neg c]; by_cases d : Nt.val m < Nt.val l <;> simp [d]
    have D := Lib.hid (decide_eq_false c)
    clear c
    obtain ⟨k, hk⟩ : ∃ k, k = Nt.ord (Nt.val l) (Nt.val m) := ⟨_, rfl⟩
    rw [← hk] at S o
    clear hk
    go_enter Tryd.func19, Tryd.ntmps19
    go_wp2_with (go_at_call 23; refine S.out.mono ?_; rintro e w' ⟨rfl, b⟩)
    go_ret
    exact ⟨ret_bool (by rw [D.out]; exact decide_eq_false (by omega)), b⟩
def slen : Value → Nat
  | .slice _ n _ => n
  | _ => 0
set_option maxRecDepth 100000 in
set_option maxHeartbeats 1600000 in
theorem number_any (v : Value) (l : List Nat) (most : Nat) (w : World) (h : Lm w v l) (hm : most ≤ 1024) (hl : l.length ≤ 9223372036854775807) :
    Calls Tryd.prog 14 #[v, .int .i64 most] w fun e w' => ∃ a n c, e = .returned (.slice a n c) ∧ Lm w' (.slice a n c) (Nt.num l most) ∧ Below w.heap.size w w' := by
  have L0 := h
  obtain ⟨a, c, rfl, -, -, hcap, -⟩ := h
  obtain ⟨n, hn⟩ : ∃ n, n = l.length := ⟨_, rfl⟩
  rw [← hn] at hl L0 hcap ⊢
  obtain ⟨t, ht⟩ : ∃ t, t = l.take most := ⟨_, rfl⟩
  have L1 := fun k hk => L0.take k hk
  have NE : Nt.num l most = Nt.dig (Nt.val t) := by rw [ht]; rfl
  rw [NE]
  clear NE L0
  by_cases hnm : n ≤ most
  · have et : t = l.take n := by rw [ht, List.take_of_length_le (by omega), List.take_of_length_le (by omega)]
    have hK : n = t.length := by rw [et, List.length_take]; omega
    have L2 := L1 n (Nat.le_refl _)
    rw [← et] at L2
    clear et L1 ht hn
    have T : Hid (Lm w (.slice a n c) t) := L2
    have HT : Hid (n = t.length) := hK
    clear L2 hK
    go_enter Tryd.func14, Tryd.ntmps14
    go_wp2
    go_loopw [0] (fun v wr => ∃ k : Nat, k ≤ n ∧ v = .slice a k c ∧ Nt.val (t.take k) = Nt.val t ∧ Qt w wr) (fun v _ => slen v)
    case atStart => exact ⟨n, Nat.le_refl _, rfl, by rw [HT.out, List.take_length], Qt.refl w⟩
    case round =>
      obtain ⟨k, hk, rfl, hv, hq⟩ := hrel
      have HV := Lib.hid hv
      have HQ := Lib.hid hq
      have TK := Lib.hid ((T.out.take k hk).below hq.bl)
      have KL : Hid (k = (t.take k).length) := by show _ = _; rw [List.length_take, ← HT.out]; omega
      clear hv
      by_cases k0 : k = 0
      · have FIN : Hid (t.take k = Nt.dig (Nt.val t)) := Pos.take_dig Nt.two_B T.out.fit HV.out (Or.inl k0)
        subst k0
        have CP := Lib.hid (copy_any a 0 c (t.take 0) wr TK.out (by omega))
        rw [FIN.out] at CP
        clear hq
        go_wp2_with (go_at_call 31; refine CP.out.mono ?_; rintro e w1 ⟨a1, c1, rfl, l1, b1⟩)
        go_ret
        exact ⟨_, _, _, rfl, l1, HQ.out.bl.trans (b1.mono HQ.out.bl.size)⟩
      · obtain ⟨_, _, e2, _, _, _, hc⟩ := TK.out
        obtain ⟨rfl, hbad, rfl⟩ := Value.slice.inj e2
        rcases hc with hc | ⟨b, off, rfl, hc⟩
        · exfalso; have := KL.out; rw [hc] at this; simp at this; omega
        have hx0 := hc (k - 1) (by have := KL.out; omega)
        rw [List.getD_eq_getElem?_getD, List.getElem?_take_of_lt (by omega), ← List.getD_eq_getElem?_getD] at hx0
        obtain ⟨j, rfl⟩ : ∃ j, k = j + 1 := ⟨k - 1, by omega⟩
        rw [Nat.add_sub_cancel] at hx0
        obtain ⟨x, hx⟩ : ∃ x, x = t.getD j 0 := ⟨_, rfl⟩
        rw [← hx] at hx0
        have HX := Lib.hid hx
        clear hx hc e2 hq hbad
        by_cases x0 : x = 0
        · have NV : Hid (Nt.val (t.take j) = Nt.val t) := by
            show _ = _
            rw [← HV.out]; exact (Pos.val_take_zero (by rw [← HX.out, x0])).symm
          subst x0
          go_wp2
          go_roundw
          case rel => exact ⟨j, by omega, rfl, NV.out, HQ.out⟩
          case measure => simp [slen]
        · have FIN : Hid (t.take (j + 1) = Nt.dig (Nt.val t)) := Pos.take_dig Nt.two_B T.out.fit HV.out (Or.inr ⟨by rw [← HT.out]; omega, by rw [Nat.add_sub_cancel, ← HX.out]; exact x0⟩)
          have CP := Lib.hid (copy_any _ (j + 1) c _ wr TK.out (by omega))
          rw [FIN.out] at CP
          go_wp2_with (go_at_call 31; refine CP.out.mono ?_; rintro e w1 ⟨a1, c1, rfl, l1, b1⟩)
          go_ret
          exact ⟨_, _, _, rfl, l1, HQ.out.bl.trans (b1.mono HQ.out.bl.size)⟩
  · have hK : most = t.length := by rw [ht, List.length_take]; omega
    have L2 := L1 most (by omega)
    rw [← ht] at L2
    clear L1 ht hn
    have T : Hid (Lm w (.slice a most c) t) := L2
    have HT : Hid (most = t.length) := hK
    clear L2 hK
    go_enter Tryd.func14, Tryd.ntmps14
    go_wp2
    go_loopw [0] (fun v wr => ∃ k : Nat, k ≤ most ∧ v = .slice a k c ∧ Nt.val (t.take k) = Nt.val t ∧ Qt w wr) (fun v _ => slen v)
    case atStart => exact ⟨most, Nat.le_refl _, rfl, by rw [HT.out, List.take_length], Qt.refl w⟩
    case round =>
      obtain ⟨k, hk, rfl, hv, hq⟩ := hrel
      have HV := Lib.hid hv
      have HQ := Lib.hid hq
      have TK := Lib.hid ((T.out.take k hk).below hq.bl)
      have KL : Hid (k = (t.take k).length) := by show _ = _; rw [List.length_take, ← HT.out]; omega
      clear hv
      by_cases k0 : k = 0
      · have FIN : Hid (t.take k = Nt.dig (Nt.val t)) := Pos.take_dig Nt.two_B T.out.fit HV.out (Or.inl k0)
        subst k0
        have CP := Lib.hid (copy_any a 0 c (t.take 0) wr TK.out (by omega))
        rw [FIN.out] at CP
        clear hq
        go_wp2_with (go_at_call 31; refine CP.out.mono ?_; rintro e w1 ⟨a1, c1, rfl, l1, b1⟩)
        go_ret
        exact ⟨_, _, _, rfl, l1, HQ.out.bl.trans (b1.mono HQ.out.bl.size)⟩
      · obtain ⟨_, _, e2, _, _, _, hc⟩ := TK.out
        obtain ⟨rfl, hbad, rfl⟩ := Value.slice.inj e2
        rcases hc with hc | ⟨b, off, rfl, hc⟩
        · exfalso; have := KL.out; rw [hc] at this; simp at this; omega
        have hx0 := hc (k - 1) (by have := KL.out; omega)
        rw [List.getD_eq_getElem?_getD, List.getElem?_take_of_lt (by omega), ← List.getD_eq_getElem?_getD] at hx0
        obtain ⟨j, rfl⟩ : ∃ j, k = j + 1 := ⟨k - 1, by omega⟩
        rw [Nat.add_sub_cancel] at hx0
        obtain ⟨x, hx⟩ : ∃ x, x = t.getD j 0 := ⟨_, rfl⟩
        rw [← hx] at hx0
        have HX := Lib.hid hx
        clear hx hc e2 hq hbad
        by_cases x0 : x = 0
        · have NV : Hid (Nt.val (t.take j) = Nt.val t) := by
            show _ = _
            rw [← HV.out]; exact (Pos.val_take_zero (by rw [← HX.out, x0])).symm
          subst x0
          go_wp2
          go_roundw
          case rel => exact ⟨j, by omega, rfl, NV.out, HQ.out⟩
          case measure => simp [slen]
        · have FIN : Hid (t.take (j + 1) = Nt.dig (Nt.val t)) := Pos.take_dig Nt.two_B T.out.fit HV.out (Or.inr ⟨by rw [← HT.out]; omega, by rw [Nat.add_sub_cancel, ← HX.out]; exact x0⟩)
          have CP := Lib.hid (copy_any _ (j + 1) c _ wr TK.out (by omega))
          rw [FIN.out] at CP
          go_wp2_with (go_at_call 31; refine CP.out.mono ?_; rintro e w1 ⟨a1, c1, rfl, l1, b1⟩)
          go_ret
          exact ⟨_, _, _, rfl, l1, HQ.out.bl.trans (b1.mono HQ.out.bl.size)⟩
end Go.Proofs.YtlmigbfpdbkkjaaDoor
