/- The reference's Read. -/
import Derived.Test.YtlmigbfpdbkkjaaDoorBn
import Derived.Test.YtlmigbfpdbkkjaaDoorTe
import Derived.Deep.RegionWith
import Derived.Deep.DeepCutAuto
namespace Go.Proofs.YtlmigbfpdbkkjaaDoor
open Go.RowKit

theorem Bt.drew {w : World} {v : Value} {l : List Nat} (h : Bt w v l) : Bt w.drew v l := h.below (Below.drew (Below.refl _ _))
theorem Bt.made {w : World} {v : Value} {l : List Nat} (h : Bt w v l) (o : Obj) : Bt (w.alloc o) v l := h.below ((Below.refl _ _).alloc (Nat.le_refl _) o)
theorem Lm.drew {w : World} {v : Value} {l : List Nat} (h : Lm w v l) : Lm w.drew v l := h.below (Below.drew (Below.refl _ _))
theorem Lm.made {w : World} {v : Value} {l : List Nat} (h : Lm w v l) (o : Obj) : Lm (w.alloc o) v l := h.below ((Below.refl _ _).alloc (Nat.le_refl _) o)
theorem one_lm (w : World) (b d : Nat) (V : Int) (hb : b = w.heap.size) (hd : d < 10) (hV : V = (d : Int)) : Lm (w.alloc (.cells #[.int .u32 V] 48)) (.slice (some ⟨b, 0, none⟩) 1 1) [d] := by
  subst hV
  refine ⟨_, 1, rfl, fun x hx => by rw [List.mem_singleton] at hx; subst hx; rw [B_is]; omega, fun e => (by cases e), Nat.le_refl _, Or.inr ⟨b, 0, rfl, fun j hj => ?_⟩⟩
  have : j = 0 := by simp at hj; exact hj
  subst this
  exact laid_at w _ _ b hb
namespace Nt
theorem tx_bad {l : List UInt8} {j : Nat} (hj : j < l.length) (hb : isD l[j] = false) : isTx l = false := by
  unfold isTx
  have h1 : l.all isD = false := by
    rw [List.all_eq_false]
    exact ⟨l[j], List.getElem_mem hj, by rw [hb]; exact Bool.false_ne_true⟩
  have h2 : (l == [48]) = false := by
    rw [beq_eq_false_iff_ne]
    rintro rfl
    have : j = 0 := by simp at hj; exact hj
    subst this
    change isD 48 = false at hb
    exact absurd hb (by decide)
  rw [h1, h2]; simp
theorem tx_head {l : List UInt8} (h1 : 1 < l.length) (h : l[0]'(by omega) = 48) : isTx l = false := by
  cases l with
  | nil => simp at h1
  | cons c r =>
    have e : c = 48 := h
    subst e
    unfold isTx
    have h2 : ((48 :: r) == [48]) = false := by
      rw [beq_eq_false_iff_ne]
      intro e
      rw [e] at h1
      simp at h1
    rw [h2]; simp
theorem tx_good {l : List UInt8} (h0 : 0 < l.length) (ha : ∀ j (hj : j < l.length), isD l[j] = true) (h : l.length = 1 ∨ l[0]'h0 ≠ 48) : isTx l = true := by
  have hall : l.all isD = true := by
    rw [List.all_eq_true]
    intro x hx
    obtain ⟨j, hj, rfl⟩ := List.getElem_of_mem hx
    exact ha j hj
  cases l with
  | nil => simp at h0
  | cons c r =>
    unfold isTx
    rw [hall]
    by_cases e : c = 48
    · subst e
      rcases h with h | h
      · have : r = [] := List.eq_nil_of_length_eq_zero (by simpa using h)
        subst this; rfl
      · exact absurd rfl h
    · simp [e]
theorem dvl_take {l : List UInt8} {t : Nat} (ht : t < l.length) : dvl 0 (l.take (t + 1)) = dvl 0 (l.take t) * 10 + (l[t].toNat - 48) := by
  rw [List.take_succ_eq_append_getElem ht, dvl_app, dvl_cons, dvl_nil]
theorem dvl_bits {l : List UInt8} (ha : l.all isD = true) : (bd (dvl 0 l)).length ≤ 4 * l.length := by
  rw [bd_len, Nat.pow_mul]
  exact Nat.lt_of_lt_of_le (dvl_lt ha) (Nat.pow_le_pow_left (by decide) _)
end Nt
set_option maxRecDepth 100000 in
set_option maxHeartbeats 3200000 in
theorem rread3_any (s : ByteArray) (w : World) (hs : s.size ≤ 400) :
    Calls Tryd.prog 29 #[.string s] w fun e w' => ∃ a n c, e = .returned (.tuple #[.slice a n c, .int .i64 (Nt.readR s.data.toList).2]) ∧ Lm w' (.slice a n c) (Nt.readR s.data.toList).1 ∧ Below w.heap.size w w' := by
  have LS : Hid (s.data.toList.length = s.size) := by show _ = _; rw [Array.length_toList]; rfl
  have GT : Hid (∀ j (hj : j < s.size), s.data.toList[j]'(by rw [LS.out]; exact hj) = s[j]) := fun j hj => by rw [Array.getElem_toList]; rfl
  have BAD : Hid (Nt.isTx s.data.toList = false → Nt.readR s.data.toList = ([], 30)) := fun h => by unfold Nt.readR; rw [if_neg (by rw [h]; exact Bool.false_ne_true)]
  go_enter Tryd.func29, Tryd.ntmps29
  go_wp2
  go_loopw [5] (fun i wr => ∃ t : Nat, t ≤ s.size ∧ i = .int .i64 t ∧ Hid (∀ j (hj : j < s.size), j < t → Nt.isD s[j] = true) ∧ w = wr) (fun i _ => s.size - (intOf i).toNat)
  case atStart => exact ⟨0, Nat.zero_le _, rfl, (fun j _ h => absurd h (Nat.not_lt_zero j)), rfl⟩
  case round =>
    obtain ⟨t, ht, rfl, AL, rfl⟩ := hrel
    by_cases hlt : t < s.size
    · by_cases c1 : (s[t].toNat : Int) < 48
      · have E := Lib.hid (BAD.out (Nt.tx_bad (j := t) (by rw [LS.out]; exact hlt) (by rw [GT.out t hlt]; unfold Nt.isD; exact decide_eq_false (by omega))))
        go_wp2
        go_ret2
        rw [E.out]
        exact ⟨_, _, _, rfl, Lm.nil _, Below.refl _ _⟩
      · by_cases c2 : (57 : Int) < (s[t].toNat : Int)
        · have E := Lib.hid (BAD.out (Nt.tx_bad (j := t) (by rw [LS.out]; exact hlt) (by rw [GT.out t hlt]; unfold Nt.isD; exact decide_eq_false (by omega))))
          go_wp2
          go_ret2
          rw [E.out]
          exact ⟨_, _, _, rfl, Lm.nil _, Below.refl _ _⟩
        · have AL' : Hid (∀ j (hj : j < s.size), j < t + 1 → Nt.isD s[j] = true) := fun j hj h => by
            by_cases e : j = t
            · subst e; unfold Nt.isD; exact decide_eq_true (by omega)
            · exact AL.out j hj (by omega)
          go_wp2
          go_roundw
          case rel => exact ⟨t + 1, by omega, by go_num, AL', by simp⟩
          case measure => simp [intOf]; omega
    · obtain rfl : t = s.size := by omega
      have ALL : Hid (∀ j (hj : j < s.data.toList.length), Nt.isD s.data.toList[j] = true) := fun j hj => by rw [GT.out j (by rw [← LS.out]; exact hj)]; exact AL.out j _ (by rw [← LS.out]; exact hj)
      by_cases z0 : s.size = 0
      · have E := Lib.hid (BAD.out (by rw [List.eq_nil_of_length_eq_zero (LS.out.trans z0)]; rfl))
        go_wp2
        go_ret2
        rw [E.out]
        exact ⟨_, _, _, rfl, Lm.nil _, Below.refl _ _⟩
      · by_cases z1 : 1 < s.size ∧ (s[0]'(by omega)).toNat = 48
        · obtain ⟨z1, z2⟩ := z1
          have E := Lib.hid (BAD.out (Nt.tx_head (by rw [LS.out]; exact z1) (by rw [GT.out 0 (by omega)]; exact UInt8.toNat_inj.1 z2)))
          have z3 : ((s[0]'(by omega)).toNat : Int) = 48 := by omega
          go_wp2
          go_ret2
          rw [E.out]
          exact ⟨_, _, _, rfl, Lm.nil _, Below.refl _ _⟩
        · have TX : Hid (Nt.isTx s.data.toList = true) := by
            refine Nt.tx_good (by rw [LS.out]; omega) ALL.out ?_
            by_cases z2 : s.size = 1
            · exact Or.inl (LS.out.trans z2)
            · refine Or.inr fun e => z1 ⟨by omega, ?_⟩
              rw [GT.out 0 (by omega)] at e
              rw [e]; rfl
          have ALB : Hid (s.data.toList.all Nt.isD = true) := by
            show _ = _
            rw [List.all_eq_true]
            intro x hx
            obtain ⟨j, hj, rfl⟩ := List.getElem_of_mem hx
            exact ALL.out j hj
          have LB : Hid (∀ t, (Nt.bd (Nt.dvl 0 (s.data.toList.take t))).length ≤ 1600) := fun t => by
            have h1 : (s.data.toList.take t).all Nt.isD = true := by
              rw [List.all_eq_true]
              intro x hx
              exact (List.all_eq_true.1 ALB.out) x (List.mem_of_mem_take hx)
            have := Nt.dvl_bits h1
            rw [List.length_take, LS.out] at this
            omega
          have E : Hid (Nt.readR s.data.toList = (Nt.dig (Nt.dvl 0 s.data.toList), 0)) := by
            show _ = _
            unfold Nt.readR
            rw [if_pos TX.out]
            have := LB.out s.size
            rw [List.take_of_length_le (by rw [LS.out]; exact Nat.le_refl _)] at this
            exact numR_small this (by omega)
          have z4 : ¬ ((1 : Int) < (s.size : Int) ∧ ((s[0]'(by omega)).toNat : Int) = 48) := by omega
          have CC : ((decide ((1 : Int) < (s.size : Int))) && (decide (((s[0]'(by omega)).toNat : Int) = 48))) = false := by
            by_cases g1 : (1 : Int) < (s.size : Int)
            · rw [decide_eq_true g1, decide_eq_false (fun g2 => z4 ⟨g1, g2⟩)]; rfl
            · rw [decide_eq_false g1]; rfl
          by_cases g1 : 1 < s.size
          · have g2 : ¬ ((s[0]'(by omega)).toNat : Int) = 48 := fun g => z4 ⟨by omega, g⟩
            have q1 : ((s.size : Int) == 0) = false := by rw [beq_eq_false_iff_ne]; omega
            have q2 : (((s[0]'(by omega)).toNat : Int) == 48) = false := by rw [beq_eq_false_iff_ne]; exact g2
            clear CC z4 z1
            go_wp2
            go_loopw [4, 6] (fun b i wr => ∃ (t : Nat) (a : Option Addr) (k c : Nat), t ≤ s.size ∧ i = .int .i64 t ∧ b = .slice a k c ∧ Hid (Bt wr (.slice a k c) (Nt.bd (Nt.dvl 0 (s.data.toList.take t)))) ∧ Hid (Below w.heap.size w wr)) (fun _ i _ => s.size - (intOf i).toNat)
            case atStart => exact ⟨0, none, 0, 0, Nat.zero_le _, rfl, rfl, (show Bt _ _ _ from Bt.nil w), (show Below _ _ _ from Below.refl _ _)⟩
            case round =>
              obtain ⟨t, a3, k3, c3, ht, rfl, rfl, O3, B3⟩ := hrel
              by_cases hlt : t < s.size
              · have dg : Nt.isD s[t] = true := by rw [← GT.out t hlt]; exact ALL.out t (by rw [LS.out]; exact hlt)
                have dg2 : 48 ≤ (s[t]).toNat ∧ (s[t]).toNat ≤ 57 := of_decide_eq_true dg
                have e1 : (48 : Int) ≤ (s[t].toNat : Int) := by omega
                have e2 : (s[t].toNat : Int) ≤ 57 := by omega
                obtain ⟨d, hd⟩ : ∃ d, d = s[t].toNat - 48 := ⟨_, rfl⟩
                have ed : (s[t].toNat : Int) - 48 = (d : Int) := by omega
                have d10 : d < 10 := by omega
                have YN : Hid (Nt.dvl 0 (s.data.toList.take (t + 1)) = Nt.dvl 0 (s.data.toList.take t) * 10 + d) := by
                  show _ = _
                  rw [Nt.dvl_take (by rw [LS.out]; exact hlt), GT.out t hlt, hd]
                have YL := Lib.hid (LB.out t)
                obtain ⟨Y, hY⟩ : ∃ Y, Y = Nt.dvl 0 (s.data.toList.take t) := ⟨_, rfl⟩
                rw [← hY] at O3 YN YL
                have M10 : Hid (∀ v u w', Bt w' v (Nt.bd 10) → Bt w' u (Nt.bd Y) → Calls Tryd.prog 54 #[v, u] w' fun e w'' => ∃ a n c, e = .returned (.slice a n c) ∧ Bt w'' (.slice a n c) (Nt.bd (10 * Y)) ∧ Below w'.heap.size w' w'') := fun v u w' h h' => by
                  have := rmul_any v u _ _ w' h h' (by rw [Nt.ten_bits]; have := YL.out; show 4 + _ ≤ _; omega)
                  rw [Nt.bv_bd, Nt.bv_bd] at this; exact this
                have BI : Hid (∀ v w', Lm w' v [d] → Calls Tryd.prog 50 #[v] w' fun e w'' => ∃ a n c, e = .returned (.slice a n c) ∧ Bt w'' (.slice a n c) (Nt.bd d) ∧ Below w'.heap.size w' w'') := fun v w' h => by
                  have := rbits_any v [d] w' h (by simp)
                  rw [show Nt.val [d] = d from by unfold Nt.val; rw [Pos.val_cons, Pos.val_nil]; omega] at this; exact this
                have L10 : Hid ((Nt.bd (10 * Y)).length ≤ 100000) := by
                  have := Nt.mul_len (Nt.bits_bd 10) (Nt.bits_bd Y)
                  rw [Nt.bv_bd, Nt.bv_bd, Nt.ten_bits] at this
                  have h2 := YL.out
                  show _ ≤ _
                  exact Nat.le_trans this (by show 4 + _ ≤ _; omega)
                have LD : Hid ((Nt.bd d).length ≤ 100000) := by
                  show _ ≤ _
                  exact Nat.le_trans ((Nt.bd_len d 4).2 (by omega)) (by decide)
                have AD : Hid (∀ v u w', Bt w' v (Nt.bd (10 * Y)) → Bt w' u (Nt.bd d) → Calls Tryd.prog 53 #[v, u, .int .i64 0] w' fun e w'' => ∃ a n c, e = .returned (.slice a n c) ∧ Bt w'' (.slice a n c) (Nt.bd (Nt.dvl 0 (s.data.toList.take (t + 1)))) ∧ Below w'.heap.size w' w'') := fun v u w' h h' => by
                  have := radd_any v u _ _ 0 w' h h' L10.out LD.out (by omega)
                  rw [Nt.bv_bd, Nt.bv_bd, Nat.pow_zero, Nat.one_mul, show 10 * Y + d = Nt.dvl 0 (s.data.toList.take (t + 1)) by rw [YN.out]; omega] at this; exact this
                have WD : Hid (IntKind.u32.wrap (IntKind.u8.wrap (d : Int)) = (d : Int)) := by
                  show ((d : Int) % 256) % 4294967296 = (d : Int)
                  omega
                clear hd dg dg2 hY
                go_wp2
                go_region_with (first
                  | (go_at_call 54; (with_reducible refine (M10.out _ _ _ (by repeat (first | (with_reducible exact ten_bt _ _ (by simp)) | (with_reducible refine Bt.made ?_ _) | (with_reducible refine Bt.drew ?_) | (with_reducible refine Bt.below ?_ b5) | (with_reducible refine Bt.below ?_ b4))) (by repeat (first | (with_reducible exact O3.out) | (with_reducible refine Bt.made ?_ _) | (with_reducible refine Bt.drew ?_) | (with_reducible refine Bt.below ?_ b5) | (with_reducible refine Bt.below ?_ b4)))).mono ?_); rintro e w4 ⟨a4, n4, c4, rfl, t4, b4⟩)
                  | (go_at_call 50; (with_reducible refine (BI.out _ _ (by repeat (first | (with_reducible exact one_lm _ _ _ _ (by simp) d10 WD.out) | (with_reducible refine Lm.made ?_ _) | (with_reducible refine Lm.drew ?_) | (with_reducible refine Lm.below ?_ b4)))).mono ?_); rintro e w5 ⟨a5, n5, c5, rfl, t5, b5⟩)
                  | (go_at_call 53; (with_reducible refine (AD.out _ _ _ (by repeat (first | (with_reducible exact t4) | (with_reducible refine Bt.made ?_ _) | (with_reducible refine Bt.drew ?_) | (with_reducible refine Bt.below ?_ b5) | (with_reducible refine Bt.below ?_ b4))) (by repeat (first | (with_reducible exact t5) | (with_reducible refine Bt.made ?_ _) | (with_reducible refine Bt.drew ?_) | (with_reducible refine Bt.below ?_ b5) | (with_reducible refine Bt.below ?_ b4)))).mono ?_); rintro e w6 ⟨a6, n6, c6, rfl, t6, b6⟩))
                all_goals (go_wp2; go_roundw; (case rel => exact ⟨t + 1, a6, n6, c6, by omega, by go_num, rfl, t6, bring b6 (by repeat (first | with_reducible exact B3.out | (with_reducible refine made ?_ _) | (with_reducible refine Below.drew ?_) | (with_reducible refine bring b5 ?_) | (with_reducible refine bring b4 ?_)))⟩); (case measure => (simp [intOf]; omega)))
              · obtain rfl : t = s.size := by omega
                have FI := Lib.hid (rfit_any _ _ wr O3.out (by have := LB.out s.size; omega))
                rw [Nt.bv_bd, List.take_of_length_le (by rw [LS.out]; exact Nat.le_refl _)] at FI
                go_wp2_with (go_at_call 55; (with_reducible refine FI.out.mono ?_); rintro e w7 ⟨a7, n7, c7, rfl, t7, b7⟩)
                go_ret2
                rw [E.out]
                exact ⟨_, _, _, rfl, t7, bring b7 B3.out⟩
          · obtain hz : s.size = 1 := by omega
            clear CC z4 z1
            have g3 : (s.size : Int) ≤ 1 := by omega
            have HZ := Lib.hid hz
            clear hz
            go_wp2
            go_loopw [4, 6] (fun b i wr => ∃ (t : Nat) (a : Option Addr) (k c : Nat), t ≤ s.size ∧ i = .int .i64 t ∧ b = .slice a k c ∧ Hid (Bt wr (.slice a k c) (Nt.bd (Nt.dvl 0 (s.data.toList.take t)))) ∧ Hid (Below w.heap.size w wr)) (fun _ i _ => s.size - (intOf i).toNat)
            case atStart => exact ⟨0, none, 0, 0, Nat.zero_le _, rfl, rfl, (show Bt _ _ _ from Bt.nil w), (show Below _ _ _ from Below.refl _ _)⟩
            case round =>
              obtain ⟨t, a3, k3, c3, ht, rfl, rfl, O3, B3⟩ := hrel
              by_cases hlt : t < s.size
              · have dg : Nt.isD s[t] = true := by rw [← GT.out t hlt]; exact ALL.out t (by rw [LS.out]; exact hlt)
                have dg2 : 48 ≤ (s[t]).toNat ∧ (s[t]).toNat ≤ 57 := of_decide_eq_true dg
                have e1 : (48 : Int) ≤ (s[t].toNat : Int) := by omega
                have e2 : (s[t].toNat : Int) ≤ 57 := by omega
                obtain ⟨d, hd⟩ : ∃ d, d = s[t].toNat - 48 := ⟨_, rfl⟩
                have ed : (s[t].toNat : Int) - 48 = (d : Int) := by omega
                have d10 : d < 10 := by omega
                have YN : Hid (Nt.dvl 0 (s.data.toList.take (t + 1)) = Nt.dvl 0 (s.data.toList.take t) * 10 + d) := by
                  show _ = _
                  rw [Nt.dvl_take (by rw [LS.out]; exact hlt), GT.out t hlt, hd]
                have YL := Lib.hid (LB.out t)
                obtain ⟨Y, hY⟩ : ∃ Y, Y = Nt.dvl 0 (s.data.toList.take t) := ⟨_, rfl⟩
                rw [← hY] at O3 YN YL
                have M10 : Hid (∀ v u w', Bt w' v (Nt.bd 10) → Bt w' u (Nt.bd Y) → Calls Tryd.prog 54 #[v, u] w' fun e w'' => ∃ a n c, e = .returned (.slice a n c) ∧ Bt w'' (.slice a n c) (Nt.bd (10 * Y)) ∧ Below w'.heap.size w' w'') := fun v u w' h h' => by
                  have := rmul_any v u _ _ w' h h' (by rw [Nt.ten_bits]; have := YL.out; show 4 + _ ≤ _; omega)
                  rw [Nt.bv_bd, Nt.bv_bd] at this; exact this
                have BI : Hid (∀ v w', Lm w' v [d] → Calls Tryd.prog 50 #[v] w' fun e w'' => ∃ a n c, e = .returned (.slice a n c) ∧ Bt w'' (.slice a n c) (Nt.bd d) ∧ Below w'.heap.size w' w'') := fun v w' h => by
                  have := rbits_any v [d] w' h (by simp)
                  rw [show Nt.val [d] = d from by unfold Nt.val; rw [Pos.val_cons, Pos.val_nil]; omega] at this; exact this
                have L10 : Hid ((Nt.bd (10 * Y)).length ≤ 100000) := by
                  have := Nt.mul_len (Nt.bits_bd 10) (Nt.bits_bd Y)
                  rw [Nt.bv_bd, Nt.bv_bd, Nt.ten_bits] at this
                  have h2 := YL.out
                  show _ ≤ _
                  exact Nat.le_trans this (by show 4 + _ ≤ _; omega)
                have LD : Hid ((Nt.bd d).length ≤ 100000) := by
                  show _ ≤ _
                  exact Nat.le_trans ((Nt.bd_len d 4).2 (by omega)) (by decide)
                have AD : Hid (∀ v u w', Bt w' v (Nt.bd (10 * Y)) → Bt w' u (Nt.bd d) → Calls Tryd.prog 53 #[v, u, .int .i64 0] w' fun e w'' => ∃ a n c, e = .returned (.slice a n c) ∧ Bt w'' (.slice a n c) (Nt.bd (Nt.dvl 0 (s.data.toList.take (t + 1)))) ∧ Below w'.heap.size w' w'') := fun v u w' h h' => by
                  have := radd_any v u _ _ 0 w' h h' L10.out LD.out (by omega)
                  rw [Nt.bv_bd, Nt.bv_bd, Nat.pow_zero, Nat.one_mul, show 10 * Y + d = Nt.dvl 0 (s.data.toList.take (t + 1)) by rw [YN.out]; omega] at this; exact this
                have WD : Hid (IntKind.u32.wrap (IntKind.u8.wrap (d : Int)) = (d : Int)) := by
                  show ((d : Int) % 256) % 4294967296 = (d : Int)
                  omega
                clear hd dg dg2 hY
                go_wp2
                go_region_with (first
                  | (go_at_call 54; (with_reducible refine (M10.out _ _ _ (by repeat (first | (with_reducible exact ten_bt _ _ (by simp)) | (with_reducible refine Bt.made ?_ _) | (with_reducible refine Bt.drew ?_) | (with_reducible refine Bt.below ?_ b5) | (with_reducible refine Bt.below ?_ b4))) (by repeat (first | (with_reducible exact O3.out) | (with_reducible refine Bt.made ?_ _) | (with_reducible refine Bt.drew ?_) | (with_reducible refine Bt.below ?_ b5) | (with_reducible refine Bt.below ?_ b4)))).mono ?_); rintro e w4 ⟨a4, n4, c4, rfl, t4, b4⟩)
                  | (go_at_call 50; (with_reducible refine (BI.out _ _ (by repeat (first | (with_reducible exact one_lm _ _ _ _ (by simp) d10 WD.out) | (with_reducible refine Lm.made ?_ _) | (with_reducible refine Lm.drew ?_) | (with_reducible refine Lm.below ?_ b4)))).mono ?_); rintro e w5 ⟨a5, n5, c5, rfl, t5, b5⟩)
                  | (go_at_call 53; (with_reducible refine (AD.out _ _ _ (by repeat (first | (with_reducible exact t4) | (with_reducible refine Bt.made ?_ _) | (with_reducible refine Bt.drew ?_) | (with_reducible refine Bt.below ?_ b5) | (with_reducible refine Bt.below ?_ b4))) (by repeat (first | (with_reducible exact t5) | (with_reducible refine Bt.made ?_ _) | (with_reducible refine Bt.drew ?_) | (with_reducible refine Bt.below ?_ b5) | (with_reducible refine Bt.below ?_ b4)))).mono ?_); rintro e w6 ⟨a6, n6, c6, rfl, t6, b6⟩))
                all_goals (go_wp2; go_roundw; (case rel => exact ⟨t + 1, a6, n6, c6, by omega, by go_num, rfl, t6, bring b6 (by repeat (first | with_reducible exact B3.out | (with_reducible refine made ?_ _) | (with_reducible refine Below.drew ?_) | (with_reducible refine bring b5 ?_) | (with_reducible refine bring b4 ?_)))⟩); (case measure => (simp [intOf]; omega)))
              · obtain rfl : t = s.size := by omega
                have FI := Lib.hid (rfit_any _ _ wr O3.out (by have := LB.out s.size; omega))
                rw [Nt.bv_bd, List.take_of_length_le (by rw [LS.out]; exact Nat.le_refl _)] at FI
                go_wp2_with (go_at_call 55; (with_reducible refine FI.out.mono ?_); rintro e w7 ⟨a7, n7, c7, rfl, t7, b7⟩)
                go_ret2
                rw [E.out]
                exact ⟨_, _, _, rfl, t7, bring b7 B3.out⟩
end Go.Proofs.YtlmigbfpdbkkjaaDoor
