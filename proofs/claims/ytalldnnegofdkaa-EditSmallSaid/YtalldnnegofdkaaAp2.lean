/- The reference's Apply. -/
import Derived.Test.YtalldnnegofdkaaAp1
namespace Go.Proofs.Ytalldnnegofdkaa
open Go.RowKit Go.Shelf

namespace Ed
theorem bg1n (b : UInt8) : bg ⟨1, b⟩ [] = none := by simp [bg, tk]
theorem bg1 (b x : UInt8) (t : Bs) : bg ⟨1, b⟩ (x :: t) = if b = 0 then some ([x], t) else none := by
  by_cases h : b = 0 <;> simp [bg, tk, wn, ft, opO, opEq, h]
theorem bg2n (b : UInt8) : bg ⟨2, b⟩ [] = none := by simp [bg, tk]
theorem bg2 (b x : UInt8) (t : Bs) : bg ⟨2, b⟩ (x :: t) = if x = b then none else some ([b], t) := by
  by_cases h : x = b <;> simp [bg, tk, wn, ft, opO, opEq, h]
theorem bg3n (b : UInt8) : bg ⟨3, b⟩ [] = none := by simp [bg, tk]
theorem bg3m (b x : UInt8) : bg ⟨3, b⟩ [x] = none := by simp [bg, tk]
theorem bg3 (b x y : UInt8) (t : Bs) : bg ⟨3, b⟩ (x :: y :: t) = if b = 0 ∧ x ≠ y then some ([y, x], t) else none := by
  by_cases h : b = 0 <;> by_cases e : x = y <;> simp [bg, tk, wn, ft, opO, opEq, h, e]
theorem bg4n (b : UInt8) : bg ⟨4, b⟩ [] = none := by simp [bg, tk]
theorem bg4 (b x : UInt8) (t : Bs) : bg ⟨4, b⟩ (x :: t) = if b = 0 then some ([], t) else none := by
  by_cases h : b = 0 <;> simp [bg, tk, wn, ft, opO, opEq, h]
theorem bg5 (b : UInt8) (s : Bs) : bg ⟨5, b⟩ s = some ([b], s) := by simp [bg, tk, wn, ft, opO, opEq]
theorem bgn (k : Nat) (b : UInt8) (s : Bs) (h : ¬ (1 ≤ k ∧ k ≤ 5)) : bg ⟨k, b⟩ s = none := by
  unfold bg
  rw [if_neg (fun e => h e.1)]
theorem b_zero {b : UInt8} (h : b ≠ 0) : ((b.toNat : Nat) : Int) ≠ 0 := by
  intro e
  apply h
  apply UInt8.toNat_inj.1
  have : b.toNat = 0 := by omega
  rw [this]; rfl
theorem b_ne {x b : UInt8} (h : x ≠ b) : ((x.toNat : Nat) : Int) ≠ ((b.toNat : Nat) : Int) := by
  intro e
  exact h (UInt8.toNat_inj.1 (by omega))
end Ed
theorem step_pushb {ops : Array Oper} {o : Oper} {a : Act} {w0 w : World} {K : Act → World → Prop} {Q : Exit → Act → World → Prop} {E : Prop} (hg : o.guard = none) (s x : Operand)
    (hop : o.op = Op.call { callee := Callee.builtin Builtin.append, args := #[s, x], argTypes := #[37, 37] })
    (v : Value) (l : Ed.Bs) (hs : a.eval s = v) (h : Oby w0 w v l) (y : Ed.Bs) (n d c : Nat) (hx : a.eval x = .slice (some ⟨d, 0, none⟩) n c) (hn : n = y.length) (hd : ∀ j u, (bcs y)[j]? = some u → w.cell? ⟨d, j, none⟩ = some u) (hl : l.length + y.length ≤ 1000000)
    (hK : ∀ v' w', Oby w0 w' v' (l ++ y) → K (a.put o.dst v') w') : if Region.wanted o (yielded ops a.tmps) = true then Oper.wp Try.prog o a w K Q else E := by
  have hw : Region.wanted o (yielded ops a.tmps) = true := by simp [Region.wanted, hg]
  rw [if_pos hw]
  obtain ⟨i0, hi, hz0, hz1, hz2⟩ := info_parts info_u8
  subst hn
  have hbl : (bcs y).length = y.length := List.length_map _
  obtain ⟨v', w', hrun, r1, r2, _⟩ := run_append_own (P := Try.prog) w w0.heap.size 37 o.type 5 i0 _ 1 1 Try.underlying37 hi hz0 hz1 hz2 rfl (by decide) v l.length (bcs l) h.own ⟨d, 0, none⟩ y.length c (bcs y) (by rw [hbl]; omega)
    (fun j u hj => by rw [show (⟨d, 0, none⟩ : Addr).add j = ⟨d, j, none⟩ by cases j <;> simp [Addr.add]]; exact hd j u hj)
    (fun u hu => by
      unfold bcs at hu
      obtain ⟨b, _, rfl⟩ := List.mem_map.1 hu
      rfl) (by unfold maxLen; omega) (by omega) h.bl.size
  have hk := hK v' w' ⟨by rw [List.length_append, show bcs (l ++ y) = bcs l ++ bcs y from List.map_append]; exact r1, h.bl.grown r2 h.bl.size (fun g hk => (h.own.lt g hk).1)⟩
  unfold Oper.wp
  simp [execOp, hop, resolve, invoke, builtin, hs, hx, hrun, Result.andThen]
  exact hk
theorem push_two (w : World) (x y : UInt8) (t : TypeId) (b : Nat) (hb : b = w.heap.size) : ∀ j u, (bcs [x, y])[j]? = some u → (w.alloc (.cells #[.int .u8 (x.toNat : Nat), .int .u8 (y.toNat : Nat)] t)).cell? ⟨b, j, none⟩ = some u := by
  intro q z hz
  match q, hz with
  | 0, hz => exact cell_at _ _ _ 0 _ _ hb hz
  | 1, hz => exact cell_at _ _ _ 1 _ _ hb hz
  | q + 2, hz => simp [bcs] at hz
set_option maxRecDepth 100000 in
set_option maxHeartbeats 6400000 in
theorem rapply_any (s : Ed.Bs) (l : List Ed.Op) (v : Value) (w : World) (hs : s.length ≤ 60) (hl : l.length ≤ 120) (h : Opl w v l) :
    Calls Try.prog 31 #[sb s, v] w fun e w' => e = .returned (.tuple #[sb (Ed.apV l s).1, .int .i64 (Ed.apV l s).2]) ∧ Below w.heap.size w w' := by
  obtain ⟨a, c, rfl, h1⟩ := h
  obtain ⟨n, hn⟩ : ∃ n, n = l.length := ⟨_, rfl⟩
  have H1 := Lib.hid h1
  have HN := Lib.hid hn
  have HS := Lib.hid hs
  obtain ⟨S, hS⟩ : ∃ S : ByteArray, S = ⟨s.toArray⟩ := ⟨_, rfl⟩
  have LS : S.size ≤ 60 := by rw [hS, Ed.size_is]; exact hs
  have e1 : sb s = .string S := by rw [hS]
  rw [e1, ← hn]
  rw [← hn] at hl
  have HSS := Lib.hid hS
  clear h1 hn hS e1 hs
  go_enter Try.func31, Try.ntmps31
  go_wp2
  go_loopw [0, 6, 7] (fun lv ov iv wr => ∃ (k : Nat) (left out : Ed.Bs), k ≤ n ∧ iv = .int .i64 k ∧ lv = sb left ∧ left.length ≤ 60 ∧ out.length ≤ 2 * k ∧ Hid (Ed.ap l s = Ed.apO out (l.drop k) left) ∧ Hid (Oby w wr ov out)) (fun _ _ iv _ => n - (intOf iv).toNat)
  case atStart => exact ⟨0, s, [], Nat.zero_le _, rfl, by rw [HSS.out], HS.out, Nat.zero_le _, (Ed.apO_nil l s).symm, Oby.start (Below.refl _ _)⟩
  case round =>
    obtain ⟨k, left, out, hkn, rfl, rfl, hll, hol, E, O⟩ := hrel
    by_cases hlt : k < n
    · have kl : k < l.length := by rw [← HN.out]; exact hlt
      obtain ⟨g, off, rfl, g1⟩ := H1.out.resolve_left (by intro e; rw [e] at kl; simp at kl)
      obtain ⟨x0, x1⟩ := g1 k kl
      have x0 := (O.out.bl.cell (World.block_lt_of_cell? _ _ x0)).trans x0
      have x1 := (O.out.bl.cell (World.block_lt_of_cell? _ _ x1)).trans x1
      have E2 := E.out
      rw [List.drop_eq_getElem_cons kl] at E2
      obtain ⟨o, hoe⟩ : ∃ o, o = l[k] := ⟨_, rfl⟩
      rw [← hoe] at x0 x1 E2
      obtain ⟨q, b⟩ := o
      clear hoe g1 E
      have O1 := Lib.hid fun o => O.out.alloc o
      have O2 := Lib.hid fun o o2 => (O.out.alloc o).alloc o2
      obtain ⟨y, hy⟩ : ∃ y : Int, y = ((b.toNat : Nat) : Int) := ⟨_, rfl⟩
      have X1 : wr.cell? ⟨g, off + k * 2 + 1, none⟩ = some (.int .u8 y) := by rw [hy]; exact x1
      have X0 : wr.cell? ⟨g, off + k * 2, none⟩ = some (.int .u8 (q : Nat)) := x0
      have BL := Lib.hid O.out.bl
      clear x0 x1
      by_cases hq : 1 ≤ q ∧ q ≤ 5
      · have hq : q = 1 ∨ q = 2 ∨ q = 3 ∨ q = 4 ∨ q = 5 := by omega
        rcases hq with rfl | rfl | rfl | rfl | rfl
        · have X0 : wr.cell? ⟨g, off + k * 2, none⟩ = some (.int .u8 1) := X0
          by_cases hb : b = 0
          · cases left with
            | nil =>
              obtain rfl : y = 0 := by rw [hy, hb]; rfl
              have E3 := Lib.hid (show Ed.ap l s = none from by rw [E2]; exact Ed.apO_stop (Ed.bg1n b))
              have AV : Hid (Ed.apV l s = ([], 60)) := by show _ = _; unfold Ed.apV; rw [E3.out]
              obtain ⟨A, hA⟩ : ∃ A : ByteArray, A = ⟨(([] : Ed.Bs)).toArray⟩ := ⟨_, rfl⟩
              have e3 : sb (([] : Ed.Bs)) = .string A := by rw [hA]
              have E4 := Lib.hid e3.symm
              rw [e3]
              have L0 : decide ((1 : Int) ≤ (A.size : Int)) = false := decide_eq_false (by rw [hA, Ed.size_is]; simp)
              have L8 : ¬ ((1 : Int) ≤ (A.size : Int)) := by rw [hA, Ed.size_is]; simp
              have L9 : (A.size : Int) < 1 := by rw [hA, Ed.size_is]; simp
              clear hb hy
              clear E2 E3 E4 hA e3
              go_wp2
              all_goals (go_ret2; rw [AV.out]; exact ⟨rfl, by first | exact BL.out.alloc BL.out.size _ | exact below_drewN (BL.out.alloc BL.out.size _) _⟩)
            | cons x t =>
              obtain rfl : y = 0 := by rw [hy, hb]; rfl
              have E3 := Lib.hid (show Ed.ap l s = Ed.apO (out ++ [x]) (l.drop (k + 1)) t from by rw [E2]; exact Ed.apO_step (by rw [Ed.bg1, if_pos hb]))
              have R1 : (t).length ≤ 60 := by first | exact hll | (simp at hll ⊢; omega)
              have R2 : (out ++ [x]).length ≤ 2 * (k + 1) := by first | omega | (simp; omega)
              obtain ⟨A, hA⟩ : ∃ A : ByteArray, A = ⟨(x :: t).toArray⟩ := ⟨_, rfl⟩
              have e3 : sb (x :: t) = .string A := by rw [hA]
              have E4 := Lib.hid e3.symm
              rw [e3]
              have L1 : 1 ≤ A.size := by rw [hA, Ed.size_is]; simp
              have L8 : (1 : Int) ≤ (A.size : Int) := by omega
              have L : 0 < A.size := L1
              have G : A[0] = x := by subst hA; rfl
              have XE : Hid (A.extract 1 A.size = ⟨t.toArray⟩) := by
                show _ = _
                rw [hA, Ed.extract_is, Ed.size_is]
                show (⟨(t.take (t.length + 1 - 1)).toArray⟩ : ByteArray) = _
                rw [List.take_of_length_le (by omega)]
              clear hb hy
              clear E2 e3 hA
              have LN : out.length + ([x] : Ed.Bs).length ≤ 1000000 := by simp; omega
              go_wp2_with (at_builtin; refine wp_pushb rfl _ _ rfl _ _ rfl (O2.out _ _) ([x]) 1 _ 1 rfl rfl ?_ LN ?_)
              · intro j z hz
                match j, hz with
                | 0, hz => exact cell_at _ _ _ 0 _ _ (by simp) hz
                | j + 1, hz => simp [bcs] at hz
              · intro v' w7 O7
                have OH := Lib.hid O7
                clear O7
                go_wp2
                go_roundw
                case rel => exact ⟨k + 1, t, out ++ [x], by omega, by go_num, by rw [XE.out], R1, R2, E3.out, OH.out⟩
                case measure => simp [intOf]; omega
          · have EN : Ed.bg ⟨1, b⟩ left = none := by cases left with | nil => exact Ed.bg1n b | cons x t => rw [Ed.bg1, if_neg hb]
            have yz : (y == 0) = false := beq_eq_false_iff_ne.2 (by rw [hy]; exact Ed.b_zero hb)
            have E3 := Lib.hid (show Ed.ap l s = none from by rw [E2]; exact Ed.apO_stop (EN))
            have AV : Hid (Ed.apV l s = ([], 60)) := by show _ = _; unfold Ed.apV; rw [E3.out]
            obtain ⟨A, hA⟩ : ∃ A : ByteArray, A = ⟨(left).toArray⟩ := ⟨_, rfl⟩
            have e3 : sb (left) = .string A := by rw [hA]
            have E4 := Lib.hid e3.symm
            rw [e3]
            clear hb EN hy
            clear E2 E3 E4 hA e3
            go_wp2
            all_goals (go_ret2; rw [AV.out]; exact ⟨rfl, by first | exact BL.out.alloc BL.out.size _ | exact below_drewN (BL.out.alloc BL.out.size _) _⟩)
        · have X0 : wr.cell? ⟨g, off + k * 2, none⟩ = some (.int .u8 2) := X0
          by_cases hb : b = 0
          · obtain rfl : y = 0 := by rw [hy, hb]; rfl
            have HB := Lib.hid (show bcs [b] = [Value.int .u8 0] from by show [Value.int .u8 ((b.toNat : Nat) : Int)] = _; rw [← hy])
            clear hb
            cases left with
            | nil =>
              have E3 := Lib.hid (show Ed.ap l s = none from by rw [E2]; exact Ed.apO_stop (Ed.bg2n b))
              have AV : Hid (Ed.apV l s = ([], 60)) := by show _ = _; unfold Ed.apV; rw [E3.out]
              obtain ⟨A, hA⟩ : ∃ A : ByteArray, A = ⟨(([] : Ed.Bs)).toArray⟩ := ⟨_, rfl⟩
              have e3 : sb (([] : Ed.Bs)) = .string A := by rw [hA]
              have E4 := Lib.hid e3.symm
              rw [e3]
              have L0 : decide ((1 : Int) ≤ (A.size : Int)) = false := decide_eq_false (by rw [hA, Ed.size_is]; simp)
              have L8 : ¬ ((1 : Int) ≤ (A.size : Int)) := by rw [hA, Ed.size_is]; simp
              have L9 : (A.size : Int) < 1 := by rw [hA, Ed.size_is]; simp
              clear hy
              clear E2 E3 E4 hA e3
              go_wp2
              all_goals (go_quiet (fail))
              all_goals go_wp2
              all_goals (go_ret2; rw [AV.out]; exact ⟨rfl, by first | exact BL.out.alloc BL.out.size _ | exact below_drewN (BL.out.alloc BL.out.size _) _⟩)
            | cons x t =>
              by_cases hx : x = b
              · have NE : (((x.toNat : Nat) : Int) != 0) = false := bne_eq_false_iff_eq.2 (by rw [hx]; exact hy.symm)
                have E3 := Lib.hid (show Ed.ap l s = none from by rw [E2]; exact Ed.apO_stop (by rw [Ed.bg2, if_pos hx]))
                have AV : Hid (Ed.apV l s = ([], 60)) := by show _ = _; unfold Ed.apV; rw [E3.out]
                obtain ⟨A, hA⟩ : ∃ A : ByteArray, A = ⟨(x :: t).toArray⟩ := ⟨_, rfl⟩
                have e3 : sb (x :: t) = .string A := by rw [hA]
                have E4 := Lib.hid e3.symm
                rw [e3]
                have L1 : 1 ≤ A.size := by rw [hA, Ed.size_is]; simp
                have L8 : (1 : Int) ≤ (A.size : Int) := by omega
                have L : 0 < A.size := L1
                have G : A[0] = x := by subst hA; rfl
                clear hx hy
                clear E2 E3 E4 hA e3
                go_wp2
                all_goals (go_quiet (fail))
                all_goals go_wp2
                all_goals (go_ret2; rw [AV.out]; exact ⟨rfl, by first | exact BL.out.alloc BL.out.size _ | exact below_drewN (BL.out.alloc BL.out.size _) _⟩)
              · have NE : (((x.toNat : Nat) : Int) != 0) = true := bne_iff_ne.2 (fun e => Ed.b_ne hx (e.trans hy))
                have E3 := Lib.hid (show Ed.ap l s = Ed.apO (out ++ [b]) (l.drop (k + 1)) t from by rw [E2]; exact Ed.apO_step (by rw [Ed.bg2, if_neg hx]))
                have R1 : (t).length ≤ 60 := by first | exact hll | (simp at hll ⊢; omega)
                have R2 : (out ++ [b]).length ≤ 2 * (k + 1) := by first | omega | (simp; omega)
                obtain ⟨A, hA⟩ : ∃ A : ByteArray, A = ⟨(x :: t).toArray⟩ := ⟨_, rfl⟩
                have e3 : sb (x :: t) = .string A := by rw [hA]
                have E4 := Lib.hid e3.symm
                rw [e3]
                have L1 : 1 ≤ A.size := by rw [hA, Ed.size_is]; simp
                have L8 : (1 : Int) ≤ (A.size : Int) := by omega
                have L : 0 < A.size := L1
                have G : A[0] = x := by subst hA; rfl
                have XE : Hid (A.extract 1 A.size = ⟨t.toArray⟩) := by
                  show _ = _
                  rw [hA, Ed.extract_is, Ed.size_is]
                  show (⟨(t.take (t.length + 1 - 1)).toArray⟩ : ByteArray) = _
                  rw [List.take_of_length_le (by omega)]
                clear hx hy
                clear E2 e3 hA
                have LN : out.length + ([b] : Ed.Bs).length ≤ 1000000 := by simp; omega
                go_wp2
                go_quiet (fail)
                have O3 := Lib.hid fun o n => Oby.quiet (O1.out o) (below_drewN (Below.refl _ _) n)
                have O2 := Lib.hid fun o n o2 => (O3.out o n).alloc o2
                go_wp2_with (at_builtin; refine wp_pushb rfl _ _ rfl _ _ rfl (O2.out _ _ _) ([b]) 1 _ 1 rfl rfl ?_ LN ?_)
                · intro j z hz
                  rw [HB.out] at hz
                  match j, hz with
                  | 0, hz => exact cell_at _ _ _ 0 _ _ (by simp) hz
                  | j + 1, hz => simp at hz
                · intro v' w7 O7
                  have OH := Lib.hid O7
                  clear O7
                  go_wp2
                  go_roundw
                  case rel => exact ⟨k + 1, t, out ++ [b], by omega, by go_num, by rw [XE.out], R1, R2, E3.out, OH.out⟩
                  case measure => simp [intOf]; omega
          · have yz : (y == 0) = false := beq_eq_false_iff_ne.2 (by rw [hy]; exact Ed.b_zero hb)
            have HB := Lib.hid (show bcs [b] = [Value.int .u8 y] from by show [Value.int .u8 ((b.toNat : Nat) : Int)] = _; rw [← hy])
            clear hb
            cases left with
            | nil =>
              have E3 := Lib.hid (show Ed.ap l s = none from by rw [E2]; exact Ed.apO_stop (Ed.bg2n b))
              have AV : Hid (Ed.apV l s = ([], 60)) := by show _ = _; unfold Ed.apV; rw [E3.out]
              obtain ⟨A, hA⟩ : ∃ A : ByteArray, A = ⟨(([] : Ed.Bs)).toArray⟩ := ⟨_, rfl⟩
              have e3 : sb (([] : Ed.Bs)) = .string A := by rw [hA]
              have E4 := Lib.hid e3.symm
              rw [e3]
              have L0 : decide ((1 : Int) ≤ (A.size : Int)) = false := decide_eq_false (by rw [hA, Ed.size_is]; simp)
              have L8 : ¬ ((1 : Int) ≤ (A.size : Int)) := by rw [hA, Ed.size_is]; simp
              have L9 : (A.size : Int) < 1 := by rw [hA, Ed.size_is]; simp
              clear hy
              clear E2 E3 E4 hA e3
              go_wp2
              all_goals (go_quiet (fail))
              all_goals go_wp2
              all_goals (go_ret2; rw [AV.out]; exact ⟨rfl, by first | exact BL.out.alloc BL.out.size _ | exact below_drewN (BL.out.alloc BL.out.size _) _⟩)
            | cons x t =>
              by_cases hx : x = b
              · have NE : (((x.toNat : Nat) : Int) != y) = false := bne_eq_false_iff_eq.2 (by rw [hx]; exact hy.symm)
                have E3 := Lib.hid (show Ed.ap l s = none from by rw [E2]; exact Ed.apO_stop (by rw [Ed.bg2, if_pos hx]))
                have AV : Hid (Ed.apV l s = ([], 60)) := by show _ = _; unfold Ed.apV; rw [E3.out]
                obtain ⟨A, hA⟩ : ∃ A : ByteArray, A = ⟨(x :: t).toArray⟩ := ⟨_, rfl⟩
                have e3 : sb (x :: t) = .string A := by rw [hA]
                have E4 := Lib.hid e3.symm
                rw [e3]
                have L1 : 1 ≤ A.size := by rw [hA, Ed.size_is]; simp
                have L8 : (1 : Int) ≤ (A.size : Int) := by omega
                have L : 0 < A.size := L1
                have G : A[0] = x := by subst hA; rfl
                clear hx hy
                clear E2 E3 E4 hA e3
                go_wp2
                all_goals (go_quiet (fail))
                all_goals go_wp2
                all_goals (go_ret2; rw [AV.out]; exact ⟨rfl, by first | exact BL.out.alloc BL.out.size _ | exact below_drewN (BL.out.alloc BL.out.size _) _⟩)
              · have NE : (((x.toNat : Nat) : Int) != y) = true := bne_iff_ne.2 (fun e => Ed.b_ne hx (e.trans hy))
                have E3 := Lib.hid (show Ed.ap l s = Ed.apO (out ++ [b]) (l.drop (k + 1)) t from by rw [E2]; exact Ed.apO_step (by rw [Ed.bg2, if_neg hx]))
                have R1 : (t).length ≤ 60 := by first | exact hll | (simp at hll ⊢; omega)
                have R2 : (out ++ [b]).length ≤ 2 * (k + 1) := by first | omega | (simp; omega)
                obtain ⟨A, hA⟩ : ∃ A : ByteArray, A = ⟨(x :: t).toArray⟩ := ⟨_, rfl⟩
                have e3 : sb (x :: t) = .string A := by rw [hA]
                have E4 := Lib.hid e3.symm
                rw [e3]
                have L1 : 1 ≤ A.size := by rw [hA, Ed.size_is]; simp
                have L8 : (1 : Int) ≤ (A.size : Int) := by omega
                have L : 0 < A.size := L1
                have G : A[0] = x := by subst hA; rfl
                have XE : Hid (A.extract 1 A.size = ⟨t.toArray⟩) := by
                  show _ = _
                  rw [hA, Ed.extract_is, Ed.size_is]
                  show (⟨(t.take (t.length + 1 - 1)).toArray⟩ : ByteArray) = _
                  rw [List.take_of_length_le (by omega)]
                clear hx hy
                clear E2 e3 hA
                have LN : out.length + ([b] : Ed.Bs).length ≤ 1000000 := by simp; omega
                go_wp2
                go_quiet (fail)
                have O3 := Lib.hid fun o n => Oby.quiet (O1.out o) (below_drewN (Below.refl _ _) n)
                have O2 := Lib.hid fun o n o2 => (O3.out o n).alloc o2
                go_wp2_with (at_builtin; refine wp_pushb rfl _ _ rfl _ _ rfl (O2.out _ _ _) ([b]) 1 _ 1 rfl rfl ?_ LN ?_)
                · intro j z hz
                  rw [HB.out] at hz
                  match j, hz with
                  | 0, hz => exact cell_at _ _ _ 0 _ _ (by simp) hz
                  | j + 1, hz => simp at hz
                · intro v' w7 O7
                  have OH := Lib.hid O7
                  clear O7
                  go_wp2
                  go_roundw
                  case rel => exact ⟨k + 1, t, out ++ [b], by omega, by go_num, by rw [XE.out], R1, R2, E3.out, OH.out⟩
                  case measure => simp [intOf]; omega
        · have X0 : wr.cell? ⟨g, off + k * 2, none⟩ = some (.int .u8 3) := X0
          by_cases hb : b = 0
          · match left, hll with
            | [], hll =>
              obtain rfl : y = 0 := by rw [hy, hb]; rfl
              have E3 := Lib.hid (show Ed.ap l s = none from by rw [E2]; exact Ed.apO_stop (Ed.bg3n b))
              have AV : Hid (Ed.apV l s = ([], 60)) := by show _ = _; unfold Ed.apV; rw [E3.out]
              obtain ⟨A, hA⟩ : ∃ A : ByteArray, A = ⟨(([] : Ed.Bs)).toArray⟩ := ⟨_, rfl⟩
              have e3 : sb (([] : Ed.Bs)) = .string A := by rw [hA]
              have E4 := Lib.hid e3.symm
              rw [e3]
              have L0 : decide ((2 : Int) ≤ (A.size : Int)) = false := decide_eq_false (by rw [hA, Ed.size_is]; simp)
              have L8 : ¬ ((2 : Int) ≤ (A.size : Int)) := by rw [hA, Ed.size_is]; simp
              have L9 : (A.size : Int) < 2 := by rw [hA, Ed.size_is]; simp
              clear hb hy
              clear E2 E3 E4 hA e3
              go_wp2
              all_goals (go_quiet (fail))
              all_goals go_wp2
              all_goals (go_ret2; rw [AV.out]; exact ⟨rfl, by first | exact BL.out.alloc BL.out.size _ | exact below_drewN (BL.out.alloc BL.out.size _) _⟩)
            | [x], hll =>
              obtain rfl : y = 0 := by rw [hy, hb]; rfl
              have E3 := Lib.hid (show Ed.ap l s = none from by rw [E2]; exact Ed.apO_stop (Ed.bg3m b x))
              have AV : Hid (Ed.apV l s = ([], 60)) := by show _ = _; unfold Ed.apV; rw [E3.out]
              obtain ⟨A, hA⟩ : ∃ A : ByteArray, A = ⟨([x]).toArray⟩ := ⟨_, rfl⟩
              have e3 : sb ([x]) = .string A := by rw [hA]
              have E4 := Lib.hid e3.symm
              rw [e3]
              have L0 : decide ((2 : Int) ≤ (A.size : Int)) = false := decide_eq_false (by rw [hA, Ed.size_is]; simp)
              have L8 : ¬ ((2 : Int) ≤ (A.size : Int)) := by rw [hA, Ed.size_is]; simp
              have L9 : (A.size : Int) < 2 := by rw [hA, Ed.size_is]; simp
              clear hb hy
              clear E2 E3 E4 hA e3
              go_wp2
              all_goals (go_quiet (fail))
              all_goals go_wp2
              all_goals (go_ret2; rw [AV.out]; exact ⟨rfl, by first | exact BL.out.alloc BL.out.size _ | exact below_drewN (BL.out.alloc BL.out.size _) _⟩)
            | x :: x' :: t, hll =>
              obtain rfl : y = 0 := by rw [hy, hb]; rfl
              by_cases hx : x = x'
              · have NE : (((x.toNat : Nat) : Int) != ((x'.toNat : Nat) : Int)) = false := by rw [hx]; simp
                have E3 := Lib.hid (show Ed.ap l s = none from by rw [E2]; exact Ed.apO_stop (by rw [Ed.bg3, if_neg (fun h => h.2 hx)]))
                have AV : Hid (Ed.apV l s = ([], 60)) := by show _ = _; unfold Ed.apV; rw [E3.out]
                obtain ⟨A, hA⟩ : ∃ A : ByteArray, A = ⟨(x :: x' :: t).toArray⟩ := ⟨_, rfl⟩
                have e3 : sb (x :: x' :: t) = .string A := by rw [hA]
                have E4 := Lib.hid e3.symm
                rw [e3]
                have L1 : 1 ≤ A.size := by rw [hA, Ed.size_is]; simp
                have L8 : (1 : Int) ≤ (A.size : Int) := by omega
                have L : 0 < A.size := L1
                have G : A[0] = x := by subst hA; rfl
                have L2 : 2 ≤ A.size := by rw [hA, Ed.size_is]; simp
                have L7 : (2 : Int) ≤ (A.size : Int) := by omega
                have L3 : 1 < A.size := L2
                have G1 : A[1] = x' := by subst hA; rfl
                clear hb hx hy
                clear E2 E3 E4 hA e3
                go_wp2
                all_goals (go_quiet (fail))
                all_goals go_wp2
                all_goals (go_ret2; rw [AV.out]; exact ⟨rfl, by first | exact BL.out.alloc BL.out.size _ | exact below_drewN (BL.out.alloc BL.out.size _) _⟩)
              · have NE : (((x.toNat : Nat) : Int) != ((x'.toNat : Nat) : Int)) = true := by simpa using Ed.b_ne hx
                have E3 := Lib.hid (show Ed.ap l s = Ed.apO (out ++ [x', x]) (l.drop (k + 1)) t from by rw [E2]; exact Ed.apO_step (by rw [Ed.bg3, if_pos ⟨hb, hx⟩]))
                have R1 : (t).length ≤ 60 := by first | exact hll | (simp at hll ⊢; omega)
                have R2 : (out ++ [x', x]).length ≤ 2 * (k + 1) := by first | omega | (simp; omega)
                obtain ⟨A, hA⟩ : ∃ A : ByteArray, A = ⟨(x :: x' :: t).toArray⟩ := ⟨_, rfl⟩
                have e3 : sb (x :: x' :: t) = .string A := by rw [hA]
                have E4 := Lib.hid e3.symm
                rw [e3]
                have L1 : 1 ≤ A.size := by rw [hA, Ed.size_is]; simp
                have L8 : (1 : Int) ≤ (A.size : Int) := by omega
                have L : 0 < A.size := L1
                have G : A[0] = x := by subst hA; rfl
                have L2 : 2 ≤ A.size := by rw [hA, Ed.size_is]; simp
                have L7 : (2 : Int) ≤ (A.size : Int) := by omega
                have L3 : 1 < A.size := L2
                have G1 : A[1] = x' := by subst hA; rfl
                have XE : Hid (A.extract 2 A.size = ⟨t.toArray⟩) := by
                  show _ = _
                  rw [hA, Ed.extract_is, Ed.size_is]
                  show (⟨(t.take (t.length + 2 - 2)).toArray⟩ : ByteArray) = _
                  rw [List.take_of_length_le (by omega)]
                clear hb hx hy
                clear E2 e3 hA
                have LN : out.length + ([x', x] : Ed.Bs).length ≤ 1000000 := by simp; omega
                go_wp2
                go_quiet (fail)
                have O3 := Lib.hid fun o n => Oby.quiet (O1.out o) (below_drewN (Below.refl _ _) n)
                have O2 := Lib.hid fun o n o2 => (O3.out o n).alloc o2
                go_wp2
                go_region_held3 (fun _ => True) (exact True.intro)
                  (first
                    | ((refine step_pushb rfl _ _ rfl _ _ rfl (((O3.out _ _).quiet (Below.refl _ _).drew).alloc _) [x', x] 2 (wr.heap.size + 1) 2 rfl rfl (push_two _ _ _ _ _ (by simp)) LN ?_); intro v' w7 O7))
                all_goals
                  have OH := Lib.hid O7
                  clear O7
                  go_wp2
                  go_roundw
                  case rel => exact ⟨k + 1, t, out ++ [x', x], by omega, by go_num, by rw [XE.out], R1, R2, E3.out, OH.out⟩
                  case measure => simp [intOf]; omega
          · have EN : Ed.bg ⟨3, b⟩ left = none := by
              match left with
              | [] => exact Ed.bg3n b
              | [x] => exact Ed.bg3m b x
              | x :: x' :: t => rw [Ed.bg3, if_neg (fun h => hb h.1)]
            have yz : (y == 0) = false := beq_eq_false_iff_ne.2 (by rw [hy]; exact Ed.b_zero hb)
            have E3 := Lib.hid (show Ed.ap l s = none from by rw [E2]; exact Ed.apO_stop (EN))
            have AV : Hid (Ed.apV l s = ([], 60)) := by show _ = _; unfold Ed.apV; rw [E3.out]
            obtain ⟨A, hA⟩ : ∃ A : ByteArray, A = ⟨(left).toArray⟩ := ⟨_, rfl⟩
            have e3 : sb (left) = .string A := by rw [hA]
            have E4 := Lib.hid e3.symm
            rw [e3]
            clear hb EN hy
            clear E2 E3 E4 hA e3
            go_wp2
            all_goals (go_quiet (fail))
            all_goals go_wp2
            all_goals (go_ret2; rw [AV.out]; exact ⟨rfl, by first | exact BL.out.alloc BL.out.size _ | exact below_drewN (BL.out.alloc BL.out.size _) _⟩)
        · have X0 : wr.cell? ⟨g, off + k * 2, none⟩ = some (.int .u8 4) := X0
          by_cases hb : b = 0
          · cases left with
            | nil =>
              obtain rfl : y = 0 := by rw [hy, hb]; rfl
              have E3 := Lib.hid (show Ed.ap l s = none from by rw [E2]; exact Ed.apO_stop (Ed.bg4n b))
              have AV : Hid (Ed.apV l s = ([], 60)) := by show _ = _; unfold Ed.apV; rw [E3.out]
              obtain ⟨A, hA⟩ : ∃ A : ByteArray, A = ⟨(([] : Ed.Bs)).toArray⟩ := ⟨_, rfl⟩
              have e3 : sb (([] : Ed.Bs)) = .string A := by rw [hA]
              have E4 := Lib.hid e3.symm
              rw [e3]
              have L0 : decide ((1 : Int) ≤ (A.size : Int)) = false := decide_eq_false (by rw [hA, Ed.size_is]; simp)
              have L8 : ¬ ((1 : Int) ≤ (A.size : Int)) := by rw [hA, Ed.size_is]; simp
              have L9 : (A.size : Int) < 1 := by rw [hA, Ed.size_is]; simp
              clear hb hy
              clear E2 E3 E4 hA e3
              go_wp2
              all_goals (go_ret2; rw [AV.out]; exact ⟨rfl, by first | exact BL.out.alloc BL.out.size _ | exact below_drewN (BL.out.alloc BL.out.size _) _⟩)
            | cons x t =>
              obtain rfl : y = 0 := by rw [hy, hb]; rfl
              have E3 := Lib.hid (show Ed.ap l s = Ed.apO out (l.drop (k + 1)) t from by rw [E2, Ed.apO_step (by rw [Ed.bg4, if_pos hb] : _ = some (([] : Ed.Bs), t)), List.append_nil])
              have R1 : (t).length ≤ 60 := by first | exact hll | (simp at hll ⊢; omega)
              have R2 : out.length ≤ 2 * (k + 1) := by first | omega | (simp; omega)
              obtain ⟨A, hA⟩ : ∃ A : ByteArray, A = ⟨(x :: t).toArray⟩ := ⟨_, rfl⟩
              have e3 : sb (x :: t) = .string A := by rw [hA]
              have E4 := Lib.hid e3.symm
              rw [e3]
              have L1 : 1 ≤ A.size := by rw [hA, Ed.size_is]; simp
              have L8 : (1 : Int) ≤ (A.size : Int) := by omega
              have L : 0 < A.size := L1
              have G : A[0] = x := by subst hA; rfl
              have XE : Hid (A.extract 1 A.size = ⟨t.toArray⟩) := by
                show _ = _
                rw [hA, Ed.extract_is, Ed.size_is]
                show (⟨(t.take (t.length + 1 - 1)).toArray⟩ : ByteArray) = _
                rw [List.take_of_length_le (by omega)]
              clear hb hy
              clear E2 e3 hA
              go_wp2
              go_roundw
              case rel => exact ⟨k + 1, t, out, by omega, by go_num, by rw [XE.out], R1, R2, E3.out, (O1.out _)⟩
              case measure => simp [intOf]; omega
          · have EN : Ed.bg ⟨4, b⟩ left = none := by cases left with | nil => exact Ed.bg4n b | cons x t => rw [Ed.bg4, if_neg hb]
            have yz : (y == 0) = false := beq_eq_false_iff_ne.2 (by rw [hy]; exact Ed.b_zero hb)
            have E3 := Lib.hid (show Ed.ap l s = none from by rw [E2]; exact Ed.apO_stop (EN))
            have AV : Hid (Ed.apV l s = ([], 60)) := by show _ = _; unfold Ed.apV; rw [E3.out]
            obtain ⟨A, hA⟩ : ∃ A : ByteArray, A = ⟨(left).toArray⟩ := ⟨_, rfl⟩
            have e3 : sb (left) = .string A := by rw [hA]
            have E4 := Lib.hid e3.symm
            rw [e3]
            clear hb EN hy
            clear E2 E3 E4 hA e3
            go_wp2
            all_goals (go_ret2; rw [AV.out]; exact ⟨rfl, by first | exact BL.out.alloc BL.out.size _ | exact below_drewN (BL.out.alloc BL.out.size _) _⟩)
        · have X0 : wr.cell? ⟨g, off + k * 2, none⟩ = some (.int .u8 5) := X0
          by_cases hb : b = 0
          · obtain rfl : y = 0 := by rw [hy, hb]; rfl
            have HB := Lib.hid (show bcs [b] = [Value.int .u8 0] from by show [Value.int .u8 ((b.toNat : Nat) : Int)] = _; rw [← hy])
            clear hb
            have E3 := Lib.hid (show Ed.ap l s = Ed.apO (out ++ [b]) (l.drop (k + 1)) left from by rw [E2]; exact Ed.apO_step (Ed.bg5 b left))
            have R1 : (left).length ≤ 60 := by first | exact hll | (simp at hll ⊢; omega)
            have R2 : (out ++ [b]).length ≤ 2 * (k + 1) := by first | omega | (simp; omega)
            obtain ⟨A, hA⟩ : ∃ A : ByteArray, A = ⟨(left).toArray⟩ := ⟨_, rfl⟩
            have e3 : sb (left) = .string A := by rw [hA]
            have E4 := Lib.hid e3.symm
            rw [e3]
            clear hy
            clear E2 e3 hA
            have LN : out.length + ([b] : Ed.Bs).length ≤ 1000000 := by simp; omega
            go_wp2_with (at_builtin; refine wp_pushb rfl _ _ rfl _ _ rfl (O2.out _ _) ([b]) 1 _ 1 rfl rfl ?_ LN ?_)
            · intro j z hz
              rw [HB.out] at hz
              match j, hz with
              | 0, hz => exact cell_at _ _ _ 0 _ _ (by simp) hz
              | j + 1, hz => simp at hz
            · intro v' w7 O7
              have OH := Lib.hid O7
              clear O7
              go_wp2
              go_roundw
              case rel => exact ⟨k + 1, left, out ++ [b], by omega, by go_num, E4.out, R1, R2, E3.out, OH.out⟩
              case measure => simp [intOf]; omega
          · have yz : (y == 0) = false := beq_eq_false_iff_ne.2 (by rw [hy]; exact Ed.b_zero hb)
            have HB := Lib.hid (show bcs [b] = [Value.int .u8 y] from by show [Value.int .u8 ((b.toNat : Nat) : Int)] = _; rw [← hy])
            clear hb
            have E3 := Lib.hid (show Ed.ap l s = Ed.apO (out ++ [b]) (l.drop (k + 1)) left from by rw [E2]; exact Ed.apO_step (Ed.bg5 b left))
            have R1 : (left).length ≤ 60 := by first | exact hll | (simp at hll ⊢; omega)
            have R2 : (out ++ [b]).length ≤ 2 * (k + 1) := by first | omega | (simp; omega)
            obtain ⟨A, hA⟩ : ∃ A : ByteArray, A = ⟨(left).toArray⟩ := ⟨_, rfl⟩
            have e3 : sb (left) = .string A := by rw [hA]
            have E4 := Lib.hid e3.symm
            rw [e3]
            clear hy
            clear E2 e3 hA
            have LN : out.length + ([b] : Ed.Bs).length ≤ 1000000 := by simp; omega
            go_wp2_with (at_builtin; refine wp_pushb rfl _ _ rfl _ _ rfl (O2.out _ _) ([b]) 1 _ 1 rfl rfl ?_ LN ?_)
            · intro j z hz
              rw [HB.out] at hz
              match j, hz with
              | 0, hz => exact cell_at _ _ _ 0 _ _ (by simp) hz
              | j + 1, hz => simp at hz
            · intro v' w7 O7
              have OH := Lib.hid O7
              clear O7
              go_wp2
              go_roundw
              case rel => exact ⟨k + 1, left, out ++ [b], by omega, by go_num, E4.out, R1, R2, E3.out, OH.out⟩
              case measure => simp [intOf]; omega
      · have n1 : ((q : Int) == 1) = false := beq_eq_false_iff_ne.2 (by omega)
        have n2 : ((q : Int) == 2) = false := beq_eq_false_iff_ne.2 (by omega)
        have n3 : ((q : Int) == 3) = false := beq_eq_false_iff_ne.2 (by omega)
        have n4 : ((q : Int) == 4) = false := beq_eq_false_iff_ne.2 (by omega)
        have n5 : ((q : Int) == 5) = false := beq_eq_false_iff_ne.2 (by omega)
        have E3 := Lib.hid (show Ed.ap l s = none from by rw [E2]; exact Ed.apO_stop (Ed.bgn q b left hq))
        have AV : Hid (Ed.apV l s = ([], 60)) := by show _ = _; unfold Ed.apV; rw [E3.out]
        obtain ⟨A, hA⟩ : ∃ A : ByteArray, A = ⟨(left).toArray⟩ := ⟨_, rfl⟩
        have e3 : sb (left) = .string A := by rw [hA]
        have E4 := Lib.hid e3.symm
        rw [e3]
        clear hq hy
        clear E2 E3 E4 hA e3
        go_wp2
        all_goals (go_ret2; rw [AV.out]; exact ⟨rfl, by first | exact BL.out.alloc BL.out.size _ | exact below_drewN (BL.out.alloc BL.out.size _) _⟩)
    · have hke : k = n := by omega
      have ED := E.out
      rw [List.drop_of_length_le (by rw [← HN.out]; omega)] at ED
      have CV := O.out.text
      have HO := O
      cases left with
      | nil =>
        have AV : Hid (Ed.apV l s = (out, 0)) := by
          show _ = _
          unfold Ed.apV; rw [ED]
          show (match Ed.apO out [] [] with | none => (([] : Ed.Bs), (60 : Int)) | some t => (t, 0)) = (out, 0)
          unfold Ed.apO Ed.ap
          simp
        clear ED E
        go_wp2
        go_ret2
        rw [AV.out]
        exact ⟨rfl, HO.out.bl⟩
      | cons x left =>
        have AV : Hid (Ed.apV l s = ([], 60)) := by
          show _ = _
          unfold Ed.apV; rw [ED]; rfl
        obtain ⟨A, hA⟩ : ∃ A : ByteArray, A = ⟨(x :: left).toArray⟩ := ⟨_, rfl⟩
        have e3 : sb (x :: left) = .string A := by rw [hA]
        have L : 0 < A.size := by rw [hA, Ed.size_is]; simp
        rw [e3]
        clear ED E hA e3
        go_wp2
        go_ret2
        rw [AV.out]
        exact ⟨rfl, HO.out.bl⟩
end Go.Proofs.Ytalldnnegofdkaa
