/- The contract of lessen. -/
import Derived.Test.YtkhgjjbiifbfgaaEk
namespace Go.Proofs.Ytkhgjjbiifbfgaa
open Go.RowKit

namespace Ed
/-- Whether a step fits, cut to what it takes and writes. -/
theorem ft_cut (k : Nat) (hk : 1 ≤ k ∧ k ≤ 5) (xs ys : Bs) (ha : tk k ≤ xs.length) (hb : wr k ≤ ys.length) : ft k (xs.take (tk k)) (ys.take (wr k)) = ft k xs ys := by
  rcases kind5 hk with rfl | rfl | rfl | rfl | rfl
  · match xs, ys, ha, hb with
    | a :: xs, b :: ys, _, _ => rfl
  · match xs, ys, ha, hb with
    | a :: xs, b :: ys, _, _ => rfl
  · match xs, ys, ha, hb with
    | a :: x :: xs, b :: y :: ys, _, _ => rfl
  · match xs, ha with
    | a :: xs, _ => rfl
  · match ys, hb with
    | b :: ys, _ => rfl
theorem opO_cut {k : Nat} (hk : 1 ≤ k ∧ k ≤ 5) {ys : Bs} (hl : wr k ≤ ys.length) : opO k (ys.take (wr k)) = opO k ys := by
  rcases kind5 hk with rfl | rfl | rfl | rfl | rfl
  · rfl
  · match ys, hl with
    | y :: ys, _ => rfl
  · rfl
  · rfl
  · match ys, hl with
    | y :: ys, _ => rfl
theorem tk_wr {k : Nat} (hk : 1 ≤ k ∧ k ≤ 5) : 1 ≤ tk k + wr k := by
  rcases kind5 hk with rfl | rfl | rfl | rfl | rfl
  all_goals decide
theorem tk_le (k : Nat) : tk k ≤ 2 := by unfold tk; split <;> omega
theorem wr_le (k : Nat) : wr k ≤ 2 := by unfold wr; split <;> omega
end Ed
/-- What lessen makes of a row. -/
def Less (k : Nat) (cost : Int) (xs ys : Ed.Bs) (R O R' : Nat → Int) : Prop :=
  ∀ j, j ≤ ys.length → R' j = if Ed.wr k ≤ ys.length - j ∧ Ed.ft k xs (ys.drop j) = true then min (R j) (cost + O (j + Ed.wr k)) else R j
set_option maxRecDepth 100000 in
set_option maxHeartbeats 3200000 in
theorem lessen_any (k : Nat) (hk : 1 ≤ k ∧ k ≤ 5) (br bo n : Nat) (cost : Int) (xs ys : Ed.Bs) (R O R' : Nat → Int) (w : World)
    (ha : Ed.tk k ≤ xs.length) (hn : ys.length = n) (hn6 : n ≤ 60) (hc : 0 ≤ cost ∧ cost ≤ 1000)
    (hr : Ir w br n R) (hR : Less k cost xs ys R O R') (hbd : ∀ j, 0 ≤ O j ∧ O j ≤ 1000000) 
    (ho : ∀ W j, j + Ed.wr k ≤ n → Sv br w W → Ir W br n (fun i => if (j : Int) < i then R' i else R i) → W.cell? ⟨bo, j + Ed.wr k, none⟩ = some (.int .i64 (O (j + Ed.wr k)))) :
    Calls Try.prog 43 #[.slice (some ⟨br, 0, none⟩) (n + 1) (n + 1), .slice (some ⟨bo, 0, none⟩) (n + 1) (n + 1), sv k, .int .i64 cost, sb xs, sb ys] w fun e w' => e = .returned (.tuple #[]) ∧ Ir w' br n R' ∧ Sv br w w' := by
  have EF := enter_fits k hk
  have FA : ∀ j, j + Ed.wr k ≤ n → ∀ w, Calls Try.prog (ffits k) #[.string ((⟨xs.toArray⟩ : ByteArray).extract 0 (Ed.tk k)), .string ((⟨ys.toArray⟩ : ByteArray).extract j (j + Ed.wr k))] w fun e w' => e = .returned (.bool (Ed.ft k xs (ys.drop j))) ∧ ∃ q, w' = w.drewN q := by
    intro j hj w
    have hl : (ys.drop j).length = n - j := by rw [List.length_drop, hn]
    rw [Ed.extract_is, Ed.extract_is, ← Ed.ft_cut k hk xs (ys.drop j) ha (by omega)]
    have e : j + Ed.wr k - j = Ed.wr k := by omega
    rw [e]
    exact fits_any k hk (xs.take (Ed.tk k)) ((ys.drop j).take (Ed.wr k)) (by rw [List.length_take]; omega) (by rw [List.length_take]; omega) w
  obtain ⟨t, ht⟩ : ∃ t, t = Ed.tk k := ⟨_, rfl⟩
  obtain ⟨r, hr2⟩ : ∃ r, r = Ed.wr k := ⟨_, rfl⟩
  have t2 : t ≤ 2 := by rw [ht]; exact Ed.tk_le k
  have r2 : r ≤ 2 := by rw [hr2]; exact Ed.wr_le k
  have SV : sv k = .agg #[.int .i64 t, .int .i64 r, fv (fcost k), fv (fdoes k), fv (ffits k)] := by rw [ht, hr2]; rfl
  have LX : (⟨xs.toArray⟩ : ByteArray).size = xs.length := Ed.size_is xs
  have LY : (⟨ys.toArray⟩ : ByteArray).size = n := by rw [← hn]; exact Ed.size_is ys
  have HL : Hid (∀ j, j ≤ n → R' j = if r ≤ n - j ∧ Ed.ft k xs (ys.drop j) = true then min (R j) (cost + O (j + r)) else R j) := by
    show ∀ j, _
    rw [hr2, ← hn]; exact hR
  rw [SV]
  rw [← ht, ← hr2] at FA
  rw [← hr2] at ho
  rw [← ht] at ha
  have HR := Lib.hid hr
  have HO := Lib.hid ho
  have FH := Lib.hid FA
  clear hr hR ho SV FA ht hr2 hn
  obtain ⟨a, hxa⟩ : ∃ a : ByteArray, a = ⟨xs.toArray⟩ := ⟨_, rfl⟩
  obtain ⟨b, hxb⟩ : ∃ b : ByteArray, b = ⟨ys.toArray⟩ := ⟨_, rfl⟩
  have e1 : sb xs = .string a := by rw [hxa]
  have e2 : sb ys = .string b := by rw [hxb]
  rw [e1, e2]
  rw [← hxa] at LX FH
  rw [← hxb] at LY FH
  have ta : t ≤ a.size := by rw [LX]; exact ha
  have nb : n ≤ b.size := by rw [LY]; exact Nat.le_refl _
  have q0 : IntKind.i64.wrap ((b.size : Int) - r) = (b.size : Int) - r := IntWalk.i64_in _ (by rw [LY]; omega)
  have LB := Lib.hid LY
  clear hxa hxb e1 e2 LX LY ha
  go_enter Try.func43, Try.ntmps43
  go_wp2
  have WB := Lib.hid (show (w.alloc (.cells #[.int .i64 t, .int .i64 r, fv (fcost k), fv (fdoes k), fv (ffits k)] 87)).cell? ⟨w.heap.size, 1, none⟩ = some (.int .i64 r) ∧ (w.alloc (.cells #[.int .i64 t, .int .i64 r, fv (fcost k), fv (fdoes k), fv (ffits k)] 87)).cell? ⟨w.heap.size, 4, none⟩ = some (fv (ffits k)) from ⟨cell_at _ _ _ 1 _ _ rfl rfl, cell_at _ _ _ 4 _ _ rfl rfl⟩)
  have BN : br ≠ w.heap.size := Nat.ne_of_lt HR.out.lt
  go_loopw [13] (fun s wr => ∃ z : Int, s = .int .i64 z ∧ -2 ≤ z ∧ z + r ≤ n ∧ Hid (Sv br (w.alloc (.cells #[.int .i64 t, .int .i64 r, fv (fcost k), fv (fdoes k), fv (ffits k)] 87)) wr) ∧ Hid (Ir wr br n (fun i => if z < i then R' i else R i))) (fun s _ => (intOf s + 3).toNat)
  case atStart =>
    refine ⟨_, rfl, by omega, by rw [LB.out]; omega, Sv.refl _ _, ?_⟩
    refine Ir.congr (HR.out.quiet ((Below.refl _ _).alloc (Nat.le_refl _) _)) fun i hi => ?_
    rw [LB.out]
    split
    · rw [HL.out i hi, if_neg (by omega)]
    · rfl
  case round =>
    obtain ⟨z, rfl, hz, hzn, S, I⟩ := hrel
    by_cases hlt : 0 ≤ z
    · obtain ⟨j, rfl⟩ : ∃ j : Nat, z = j := ⟨z.toNat, by omega⟩
      have c1 := S.out.cell (p := ⟨w.heap.size, 1, none⟩) (fun e => BN e.symm) WB.out.1
      have c4 := S.out.cell (p := ⟨w.heap.size, 4, none⟩) (fun e => BN e.symm) WB.out.2
      have q1 : IntKind.i64.wrap ((j : Int) + r) = (j : Int) + r := IntWalk.i64_in _ (by omega)
      have q2 : (0 : Int) ≤ (j : Int) + r := by omega
      have q3 : ((j : Int) + r).toNat = j + r := by omega
      have q4 : (j : Int) + r ≤ b.size := by rw [LB.out]; exact hzn
      have q5 : (j : Int) ≤ (j : Int) + r := by omega
      have hj : j ≤ n := by omega
      have CH := Lib.hid (FH.out j (by omega))
      have RJ := HL.out j hj
      have SW : Sv br w wr := (Sv.of_below ((Below.refl _ _).alloc (Nat.le_refl _) _)).trans S.out
      have OJ := HO.out wr j (by omega) SW I.out
      have RR := I.out.cell hj
      have FZ := I.out.free j
      rw [if_neg (Int.lt_irrefl _)] at RR
      obtain ⟨x, hx⟩ : ∃ x, x = R j := ⟨_, rfl⟩
      obtain ⟨y, hy⟩ : ∃ y, y = O (j + r) := ⟨_, rfl⟩
      have yb := hbd (j + r)
      rw [← hy] at yb OJ
      rw [← hx] at RR
      have HY := Lib.hid hy
      have HX := Lib.hid hx
      have HJ := Lib.hid RJ
      clear hx hy RJ SW
      cases hf : Ed.ft k xs (ys.drop j) with
      | false =>
        rw [hf] at CH
        have HF := Lib.hid hf
        clear hf
        go_wp2
        go_quiet ((go_at_fn (ffits k); exact Calls.quiet_of (CH.out _)))
        go_wp2
        go_roundw
        case rel =>
          refine ⟨(j : Int) - 1, rfl, by omega, by omega, S.out.trans (Sv.of_below (below_drewN (Below.refl _ _) _)), ?_⟩
          refine Ir.congr (I.out.quiet (below_drewN (Below.refl _ _) _)) fun i hi => ?_
          by_cases h1 : (j : Int) < i
          · rw [if_pos h1, if_pos (by omega)]
          · rw [if_neg h1]
            by_cases h2 : i = j
            · subst h2
              rw [if_pos (by omega), HJ.out, HF.out, if_neg (by simp)]
            · rw [if_neg (by omega)]
        case measure => simp [intOf]; omega
      | true =>
        rw [hf] at CH
        have HF := Lib.hid hf
        clear hf
        have q6 : IntKind.i64.wrap (cost + y) = cost + y := IntWalk.i64_in _ (by omega)
        go_wp2
        go_quiet ((go_at_fn (ffits k); exact Calls.quiet_of (CH.out _)))
        go_wp2
        go_region
        go_wp2
        go_roundw
        case rel =>
          refine ⟨(j : Int) - 1, rfl, by omega, by omega, (S.out.trans (Sv.of_below (below_drewN (Below.refl _ _) _))).trans (Sv.set _ _ _ _), ?_⟩
          refine Ir.congr ((I.out.quiet (below_drewN (Below.refl _ _) _)).put j _) fun i hi => ?_
          by_cases h2 : i = j
          · subst h2
            have i1 : (i : Int) - 1 < i := by omega
            have i2 : r ≤ n - i ∧ true = true := ⟨by omega, rfl⟩
            rw [if_pos rfl, if_pos i1, HJ.out, HF.out, if_pos i2, ← HX.out, ← HY.out]
            have q7 : IntKind.i64.wrap (cost + y) = cost + y := IntWalk.i64_in _ (by omega)
            split <;> omega
          · rw [if_neg h2]
            by_cases h1 : (j : Int) < i
            · rw [if_pos h1, if_pos (by omega)]
            · rw [if_neg h1, if_neg (by omega)]
        case measure => simp [intOf]; omega
    · go_wp2
      go_end0
      refine ⟨rfl, Ir.congr I.out fun i hi => by rw [if_pos (by omega)], (Sv.of_below ((Below.refl _ _).alloc (Nat.le_refl _) _)).trans S.out⟩
end Go.Proofs.Ytkhgjjbiifbfgaa
