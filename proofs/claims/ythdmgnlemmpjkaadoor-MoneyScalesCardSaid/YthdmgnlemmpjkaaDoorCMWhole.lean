/- MoneyWhole: its walk. -/
import Derived.Test.YthdmgnlemmpjkaaDoorWt
import Derived.Test.YthdmgnlemmpjkaaDoorMF
namespace Go.Proofs.YthdmgnlemmpjkaaDoor
open Go.RowKit

namespace Mny
theorem wt_rt {l : List Int} (h : l.all wt = true) : l.all rt = true := by
  rw [List.all_eq_true]; intro x hx
  have := wt_bd h x hx
  rw [rt_iff]; omega
theorem wt_sum {l : List Int} (h : l.all wt = true) (hl : l.length ≤ 4096) : sumE l = 0 ∧ sumV l = sm l := by
  have a := sm_nonneg h
  have b := sm_le h hl
  exact sum_ok hl (wt_rt h) (by rw [rt_iff]; omega)
theorem give_bd (f : Int → Int) (a b : Int) : ∀ (l : List Int) (L : Int), (∀ x ∈ l, a ≤ f x ∧ f x ≤ b) → ∀ y ∈ give f L l, a ≤ y ∧ y ≤ b + 1
  | [], _, _ => by simp [give]
  | x :: l, L, h => by
    intro y hy
    have hx := h x (by simp)
    have ht : ∀ x ∈ l, a ≤ f x ∧ f x ≤ b := fun z hz => h z (by simp [hz])
    by_cases c : 0 < L ∧ 0 < x
    · rw [give_yes f L x l c.1 c.2] at hy
      rcases List.mem_cons.1 hy with rfl | hy
      · omega
      · exact give_bd f a b l (L - 1) ht y hy
    · rw [give_no f L x l c] at hy
      rcases List.mem_cons.1 hy with rfl | hy
      · omega
      · exact give_bd f a b l L ht y hy
theorem split_bd {c : Int} {ws : List Int} (h : ws.all wt = true) (h0 : 1 ≤ sm ws) (h1 : -1000000000000000 ≤ c) (h2 : c ≤ 1000000000000000) : ∀ y ∈ split c ws, -1000000000000000 ≤ y ∧ y ≤ 1000000000000001 := by
  exact give_bd (fun x => c * x / sm ws) (-1000000000000000) 1000000000000000 ws _ (fun x hx => q_bd h0 (wt_bd h x hx).1 (mem_le h x hx) h1 h2 (by omega))
theorem word {o W c x d : Int} (h : o * W - c * x = d) (h1 : -9223372036854775808 ≤ d) (h2 : d ≤ 9223372036854775807) :
    wrap64 (IntKind.u64.wrap (IntKind.u64.wrap (IntKind.u64.wrap o * W) - IntKind.u64.wrap (IntKind.u64.wrap c * x))) = d := by
  have u : ∀ n, IntKind.u64.wrap n = n % 18446744073709551616 := fun n => rfl
  have m : ∀ a b : Int, (a % 18446744073709551616 * b) % 18446744073709551616 = a * b % 18446744073709551616 := fun a b => by
    rw [Int.mul_emod, Int.emod_emod_of_dvd _ (Int.dvd_refl _), ← Int.mul_emod]
  have e : IntKind.u64.wrap (IntKind.u64.wrap (IntKind.u64.wrap o * W) - IntKind.u64.wrap (IntKind.u64.wrap c * x)) = d % 18446744073709551616 := by
    rw [u, u, u, u, u, m, m, ← Int.sub_emod, h]
  rw [e]
  by_cases s : 0 ≤ d
  · rw [Int.emod_eq_of_lt s (by omega)]; exact IntWalk.wrap64_in _ ⟨by omega, by omega⟩
  · have q : d % 18446744073709551616 = d + 18446744073709551616 := by omega
    rw [q]
    unfold wrap64; omega
end Mny
set_option maxRecDepth 100000 in
set_option maxHeartbeats 3200000 in
theorem whole_any (w : World) (G : Gl w) (n : Int) (_n1 : -9223372036854775808 ≤ n) (_n2 : n ≤ 9223372036854775807) (v : Value) (us : List Int) (h : Sw w v us) :
    Calls Tryd.prog 4 #[.int .i64 n, v] w fun e w' => e = .returned (.bool true) ∧ Below w.heap.size w w' := by
  have PA := Lib.hid (fun w => amount_any n w)
  have WA := Lib.hid (fun w' (b : Below w.heap.size w w') => weights_any v us w' (h.below b))
  obtain ⟨c, hc⟩ : ∃ c, c = n % 2000000000000001 - 1000000000000000 := ⟨_, rfl⟩
  have c1 : -1000000000000000 ≤ c := by omega
  have c2 : c ≤ 1000000000000000 := by omega
  rw [← hc] at PA
  obtain ⟨k1, k2, k3, k4⟩ := Mny.wts_ok us
  obtain ⟨ws, hws⟩ : ∃ ws, ws = Mny.wts us := ⟨_, rfl⟩
  rw [← hws] at WA k1 k2 k3 k4
  have OK := (Mny.okS_iff c ws).2 ⟨k1, k2, (Mny.rt_iff c).2 ⟨c1, c2⟩⟩
  obtain ⟨N, hN⟩ : ∃ N, N = ws.length := ⟨_, rfl⟩
  obtain ⟨W, hW⟩ : ∃ W, W = Mny.sm ws := ⟨_, rfl⟩
  have W2 := Mny.sm_le k1 k3
  have SU := Lib.hid (fun v w' (h : Sl w' v ws) => sum_s v ws (Mny.sm ws) 0 w' h (Mny.wt_sum k1 k3).2 (Mny.wt_sum k1 k3).1)
  have SP := Lib.hid (fun v w' (h : Sl w' v ws) => split_ok v ws c w' h k3 OK)
  rw [← hN] at WA SP k3 k4
  rw [← hW] at SU k2 W2
  have HN := Lib.hid hN
  have HW := Lib.hid hW
  obtain ⟨a, ca, rfl, _, _, _⟩ := h
  have K1 := Lib.hid k1
  clear hc hws hN hW OK k1
  go_enter Tryd.func4, Tryd.ntmps4
  go_wp2_with (first | (go_at_call 11; refine (awake_any w _ (St.refl G)).mono ?_; rintro e wa ⟨rfl, S0⟩)  | (go_at_call 13; refine (PA.out _).mono ?_; rintro e w' ⟨rfl, rfl⟩)  | (go_at_call 14; refine (WA.out _ S0.bl).mono ?_; rintro e w1 ⟨aw, cw, rfl, sl1, b1⟩)  | (go_at_call 15; refine (SP.out _ _ sl1).mono ?_; rintro e w2 ⟨g, rfl, hg, own2, b2⟩; have sl2 := sl1.below b2)  | (go_at_call 16; refine (SU.out _ _ sl2).mono ?_; rintro e w' ⟨rfl, rfl⟩))
  have st2 := (S0.step b1).step b2
  have ST := Lib.hid st2
  have HL := Lib.hid (Mny.split_len c ws)
  have SB := Lib.hid (Mny.split_bd (c := c) K1.out (by rw [← HW.out]; exact k2) c1 c2)
  have SS := Lib.hid (Mny.split_sum c ws K1.out (by rw [← HW.out]; exact k2))
  have GV : Hid (Mny.split c ws = Mny.give (fun x => c * x / Mny.sm ws) (c - Mny.sm (ws.map fun x => c * x / Mny.sm ws)) ws) := rfl
  rw [← HW.out] at GV
  obtain ⟨f, hf⟩ : ∃ f : Int → Int, f = fun x => c * x / W := ⟨_, rfl⟩
  obtain ⟨L0, hL0⟩ : ∃ L, L = c - Mny.sm (ws.map fun x => c * x / W) := ⟨_, rfl⟩
  rw [← hL0, ← hf] at GV
  have FX : Hid (∀ x, f x = c * x / W) := fun x => by rw [hf]
  obtain ⟨out, hout⟩ : ∃ out, out = Mny.split c ws := ⟨_, rfl⟩
  rw [← hout] at HL SB SS GV own2
  have OC : Hid (∀ j, j < N → w2.cell? ⟨g, j, none⟩ = some (.int .i64 (out.getD j 0))) := fun j hj => by
    have e : out.length = N := by rw [HL.out, HN.out]
    have o := own2
    rw [← e] at o
    have := own_full o j (by omega)
    rwa [Nat.zero_add] at this
  obtain ⟨_, _, e2, hsl⟩ := sl2
  obtain ⟨rfl, hN2, rfl⟩ := Value.slice.inj e2
  clear hN2
  rcases hsl with h0 | ⟨b, off, rfl, WC⟩
  · exfalso; have := HN.out; rw [h0] at this; simp at this; omega
  have WC := Lib.hid WC
  clear e2 hf hL0 hout own2 hg sl1 st2 b1 b2 S0
  go_loopw [11, 12, 45] (fun al mo i wr => ∃ (k : Nat) (L : Int) (m : Bool), k ≤ N ∧ i = .int .i64 k ∧ al = .int .i64 (Mny.sm (out.take k)) ∧ mo = .bool m ∧ out.drop k = Mny.give f L (ws.drop k) ∧ (m = false → L ≤ 0) ∧ Qt w2 wr) (fun _ _ i _ => N + 1 - (intOf i).toNat)
  case atStart => exact ⟨0, L0, true, by omega, rfl, rfl, rfl, GV.out, by simp, Qt.refl _⟩
  case round =>
    obtain ⟨k, L, m, hk, rfl, rfl, rfl, hgv, hmL, hq⟩ := hrel
    have HQ := Lib.hid hq
    have HM := Lib.hid hmL
    have bd := Mny.sm_bd (out.take k) (-1000000000000000) 1000000000000001 (fun y hy => SB.out y (List.mem_of_mem_take hy))
    have bl : (out.take k).length ≤ 4096 := by rw [List.length_take]; omega
    have bd2 : -4096000000000000000 ≤ Mny.sm (out.take k) ∧ Mny.sm (out.take k) ≤ 4097000000000000000 := by omega
    by_cases hlt : k < N
    · have co := hq.cell (OC.out k hlt)
      have cw := hq.cell (WC.out k (by have := HN.out; omega))
      have ob := SB.out (out.getD k 0) (Mny.getD_mem (by have := HN.out; have := HL.out; omega))
      have GS := Lib.hid (Mny.give_step (f := f) (out := out) (ws := ws) (k := k) (L := L) HL.out (by have := HN.out; omega) hgv)
      have SK := Lib.hid (Mny.sm_take out k (by have := HN.out; have := HL.out; omega))
      have wb := Mny.wt_bd K1.out (ws.getD k 0) (Mny.getD_mem (by have := HN.out; omega))
      have wl : ws.getD k 0 ≤ W := by have := Mny.mem_le K1.out (ws.getD k 0) (Mny.getD_mem (by have := HN.out; omega)); rw [HW.out]; exact this
      obtain ⟨x, hx⟩ : ∃ x, x = ws.getD k 0 := ⟨_, rfl⟩
      obtain ⟨o, ho⟩ : ∃ o, o = out.getD k 0 := ⟨_, rfl⟩
      obtain ⟨S, hS⟩ : ∃ S, S = Mny.sm (out.take k) := ⟨_, rfl⟩
      rw [← hx] at cw GS wb wl
      rw [← ho] at co ob GS SK
      rw [← hS] at bd2 SK ⊢
      obtain ⟨ob1, ob2⟩ := ob
      obtain ⟨wb1, wb2⟩ := wb
      obtain ⟨s1, s2⟩ := bd2
      clear hx ho hS bd bl hgv hmL hq
      by_cases x0 : x = 0
      · have G : Hid (o = 0 ∧ out.drop (k + 1) = Mny.give f L (ws.drop (k + 1))) := by
          rcases GS.out with q | q
          · exfalso; omega
          · exact ⟨by rw [q.2.1, FX.out, x0, Int.mul_zero, Int.zero_ediv], q.2.2⟩
        have o0 := G.out.1
        subst x0 o0
        go_wp2
        go_roundw
        case rel => exact ⟨k + 1, L, m, by omega, by go_num, by rw [SK.out, Int.add_zero], rfl, G.out.2, HM.out, HQ.out⟩
        case measure => simp [intOf]; omega
      · have xp : 0 < x := by omega
        have r0 := Int.emod_nonneg (c * x) (show W ≠ 0 by omega)
        have r1 := Int.emod_lt_of_pos (c * x) (show 0 < W by omega)
        have e := Int.mul_ediv_add_emod (c * x) W
        have fx := FX.out x
        by_cases L0 : 0 < L
        · have G : Hid (o = f x + 1 ∧ out.drop (k + 1) = Mny.give f (L - 1) (ws.drop (k + 1))) := by
            rcases GS.out with q | q
            · exact ⟨q.2.2.1, q.2.2.2⟩
            · exact absurd ⟨L0, xp⟩ q.1
          obtain ⟨d, hd⟩ : ∃ d, d = W - c * x % W := ⟨_, rfl⟩
          have E : o * W - c * x = d := by
            rw [G.out.1, fx, Int.add_mul, Int.mul_comm (c * x / W) W]; omega
          have d1 : 0 < d := by omega
          have d2 : d ≤ W := by omega
          have hm : m = true := by cases m
                                   · have := HM.out rfl; omega
                                   · rfl
          subst hm
          have WD := Lib.hid (Mny.word E (by omega) (by omega))
          clear hd E r0 r1 e fx
          go_wp2
          go_region
          rw [WD.out]
          go_wp2
          go_roundw
          case rel => exact ⟨k + 1, L - 1, true, by omega, by go_num, by rw [SK.out], rfl, G.out.2, by simp, HQ.out.trans ⟨1, rfl⟩⟩
          case measure => simp [intOf]; omega
        · have G : Hid (o = f x ∧ out.drop (k + 1) = Mny.give f L (ws.drop (k + 1))) := by
            rcases GS.out with q | q
            · exact absurd q.1 L0
            · exact ⟨q.2.1, q.2.2⟩
          obtain ⟨d, hd⟩ : ∃ d, d = -(c * x % W) := ⟨_, rfl⟩
          have E : o * W - c * x = d := by
            rw [G.out.1, fx, Int.mul_comm (c * x / W) W]; omega
          have d1 : -W < d := by omega
          have d2 : d ≤ 0 := by omega
          have WD := Lib.hid (Mny.word E (by omega) (by omega))
          clear hd E r0 r1 e fx
          cases m
          all_goals
            go_wp2
            go_region
            rw [WD.out]
            go_wp2
            go_roundw
            case rel => exact ⟨k + 1, L, false, by omega, by go_num, by rw [SK.out], rfl, G.out.2, fun _ => by omega, HQ.out.trans ⟨1, rfl⟩⟩
            case measure => simp [intOf]; omega
    · obtain rfl : k = N := by omega
      have e : out.take k = out := List.take_of_length_le (by have := HN.out; have := HL.out; omega)
      rw [e, SS.out] at *
      go_wp2
      go_ret
      exact ⟨rfl, (HQ.out.st ST.out).bl⟩
theorem sw_of {w : World} {a : Option Addr} {len cap : Nat} {zs : List Int} (h : IsRow .u32 w a len cap zs) : Sw w (.slice a len cap) (zs.take len) := by
  obtain ⟨e, hm, hc, hw⟩ := row_at h
  refine ⟨a, cap, by rw [e], by rw [e]; exact hm, fun x hx => ?_, hc⟩
  have := hw x hx
  simpa [Lit.wf, IntKind.min, IntKind.max, IntKind.signed, IntKind.bits] using this
theorem walk_moneyWhole (w : World) (G : Gl w) (n : Int) (n1 : -9223372036854775808 ≤ n) (n2 : n ≤ 9223372036854775807) (a : Option Addr) (len cap : Nat) (zs : List Int) (h : IsRow .u32 w a len cap zs) :
    Calls Tryd.prog 4 #[.int .i64 n, .slice a len cap] w fun e w' => e = .returned (.bool true) ∧ Below w.heap.size w w' :=
  whole_any w G n n1 n2 _ _ (sw_of h)
end Go.Proofs.YthdmgnlemmpjkaaDoor
