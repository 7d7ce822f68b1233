/- MoneySums: its walk. -/
import Derived.Test.YthdmgnlemmpjkaaDoorPk
import Derived.Test.YthdmgnlemmpjkaaDoorMF
namespace Go.Proofs.YthdmgnlemmpjkaaDoor
open Go.RowKit

namespace Mny
/-- Amounts made of numbers. -/
def am (us : List Int) (k : Nat) : List Int := (us.take k).map fun x => x % 2000000000000001 - 1000000000000000
theorem am_len (us : List Int) (k : Nat) (h : k ≤ us.length) : (am us k).length = k := by unfold am; rw [List.length_map, List.length_take]; omega
theorem am_snoc (us : List Int) (k : Nat) (h : k < us.length) : am us (k + 1) = am us k ++ [us.getD k 0 % 2000000000000001 - 1000000000000000] := by
  unfold am; rw [take_snoc us k h, List.map_append]; rfl
theorem am_rt (us : List Int) (k : Nat) : (am us k).all rt = true := by
  rw [List.all_eq_true]; intro x hx
  obtain ⟨y, _, rfl⟩ := List.mem_map.1 hx
  rw [rt_iff]; omega
theorem rev_snoc (xs : List Int) (k : Nat) (h : k < xs.length) : xs.reverse.take (k + 1) = xs.reverse.take k ++ [xs.getD (xs.length - 1 - k) 0] := by
  rw [take_snoc _ k (by simpa using h)]
  congr 2
  rw [List.getD_eq_getElem?_getD, List.getD_eq_getElem?_getD, List.getElem?_reverse h]
/-- Sums of amounts. -/
theorem sum_two {xs : List Int} (h : xs.all rt = true) (hl : xs.length ≤ 4096) : (rt (sm xs) = true ∧ sumE xs = 0 ∧ sumV xs = sm xs) ∨ (rt (sm xs) = false ∧ sumE xs = 3 ∧ sumV xs = 0) := by
  cases q : rt (sm xs)
  · exact Or.inr ⟨rfl, (sum_long hl h q).1, (sum_long hl h q).2⟩
  · exact Or.inl ⟨rfl, (sum_ok hl h q).1, (sum_ok hl h q).2⟩
theorem sum_rev {xs : List Int} (h : xs.all rt = true) (hl : xs.length ≤ 4096) : sumE xs.reverse = sumE xs ∧ sumV xs.reverse = sumV xs := by
  have p : sm xs.reverse = sm xs := sm_perm xs.reverse_perm
  have h' : xs.reverse.all rt = true := by rw [List.all_reverse]; exact h
  have hl' : xs.reverse.length ≤ 4096 := by rw [List.length_reverse]; exact hl
  rcases sum_two h hl with a | a <;> rcases sum_two h' hl' with b | b
  · exact ⟨by omega, by omega⟩
  · exfalso; rw [p, a.1] at b; exact absurd b.1 (by simp)
  · exfalso; rw [p, a.1] at b; exact absurd b.1 (by simp)
  · exact ⟨by omega, by omega⟩
theorem all_tk {xs : List Int} (h : xs.all rt = true) (k : Nat) : (xs.take k).all rt = true := by
  rw [List.all_eq_true] at h ⊢; intro x hx; exact h x (List.mem_of_mem_take hx)
theorem all_dp {xs : List Int} (h : xs.all rt = true) (k : Nat) : (xs.drop k).all rt = true := by
  rw [List.all_eq_true] at h ⊢; intro x hx; exact h x (List.mem_of_mem_drop hx)
theorem sm_split (xs : List Int) (k : Nat) : sm (xs.take k) + sm (xs.drop k) = sm xs := by rw [← sm_app, List.take_append_drop]
end Mny
theorem sl_take (w : World) (a A : Option Addr) (q C : Nat) (xs : List Int) (hA : A = a ∨ A = a.map (·.add 0)) (hq : (xs.take q).length = q) (h : xs = [] ∨ ∃ b off, a = some ⟨b, off, none⟩ ∧ ∀ j, j < xs.length → w.cell? ⟨b, off + j, none⟩ = some (.int .i64 (xs.getD j 0))) : Sl w (.slice A q C) (xs.take q) := by
  refine ⟨A, C, by rw [hq], ?_⟩
  rcases h with h | ⟨b, off, rfl, h⟩
  · left; rw [h]; simp
  · right
    have e : A = some ⟨b, off, none⟩ := by rcases hA with rfl | rfl <;> simp [Addr.add]
    refine ⟨b, off, e, fun j hj => ?_⟩
    rw [h j (by have := List.length_take_le q xs; have := List.length_take_le' q xs; omega), List.getD_eq_getElem?_getD, List.getD_eq_getElem?_getD, List.getElem?_take, if_pos (by omega)]
theorem sl_drop (w : World) (a A : Option Addr) (q m C : Nat) (xs : List Int) (hA : A = a ∧ m = 0 ∨ A = a.map (·.add q)) (hm : (xs.drop q).length = m) (hq : q ≤ xs.length) (h : xs = [] ∨ ∃ b off, a = some ⟨b, off, none⟩ ∧ ∀ j, j < xs.length → w.cell? ⟨b, off + j, none⟩ = some (.int .i64 (xs.getD j 0))) : Sl w (.slice A m C) (xs.drop q) := by
  refine ⟨A, C, by rw [hm], ?_⟩
  rcases h with h | ⟨b, off, rfl, h⟩
  · left; rw [h]; simp
  · rcases hA with ⟨_, rfl⟩ | rfl
    · left; exact List.eq_nil_of_length_eq_zero hm
    · right
      refine ⟨b, off + q, by simp [Addr.add], fun j hj => ?_⟩
      rw [List.length_drop] at hj
      rw [Nat.add_assoc, h (q + j) (by omega), List.getD_eq_getElem?_getD, List.getD_eq_getElem?_getD, List.getElem?_drop]
set_option maxRecDepth 100000 in
set_option maxHeartbeats 3200000 in
theorem sums_any (w : World) (G : Gl w) (v : Value) (us : List Int) (h : Sl w v us) (_hm : us.length ≤ 9223372036854775807) (y : Int) (y1 : 0 ≤ y) (y2 : y ≤ 65535) :
    Calls Tryd.prog 8 #[v, .int .u16 y] w fun e w' => e = .returned (.bool true) ∧ Below w.heap.size w w' := by
  obtain ⟨a, c, rfl, h⟩ := h
  have AM := Lib.hid (fun n w => amount_any n w)
  obtain ⟨n, hn⟩ : ∃ n, n = us.length := ⟨_, rfl⟩
  rw [← hn] at h _hm ⊢
  have HN := Lib.hid hn
  have H := Lib.hid h
  obtain ⟨i0, hi, hz0, hz1, hz2⟩ := info_parts info_int
  clear hn h
  go_enter Tryd.func8, Tryd.ntmps8
  go_wp2_with (go_at_call 11; refine (awake_any w _ (St.refl G)).mono ?_; rintro e wa ⟨rfl, S0⟩)
  have HS := Lib.hid S0
  obtain ⟨B, hB⟩ : ∃ B, B = wa.heap.size := ⟨_, rfl⟩
  have HB := Lib.hid hB
  have Bl : Below B wa wa := by rw [hB]; exact Below.refl _ _
  have HA : Hid (us = [] ∨ ∃ b off, a = some ⟨b, off, none⟩ ∧ ∀ j, j < n → wa.cell? ⟨b, off + j, none⟩ = some (.int .i64 (us.getD j 0))) := by
    rcases H.out with h | ⟨b, off, rfl, h⟩
    · exact Or.inl h
    · exact Or.inr ⟨b, off, rfl, fun j hj => (HS.out.bl.cell (World.block_lt_of_cell? _ _ (h j (by have := HN.out; omega)))).trans (h j (by have := HN.out; omega))⟩
  clear hB S0 H
  go_loopw [5, 7] (fun v i wr => ∃ k : Nat, k ≤ n ∧ k ≤ 4096 ∧ i = .int .i64 k ∧ wr.ownsRow B 3 1 v k ((Mny.am us k).map (Value.int .i64)) ∧ Below B wa wr) (fun _ i _ => 4097 - (intOf i).toNat)
  case atStart => exact ⟨0, Nat.zero_le _, Nat.zero_le _, rfl, World.ownsRow_nil _ _ _ _, Bl⟩
  case round =>
    obtain ⟨k, hk, hk1, rfl, hown, hbl⟩ := hrel
    by_cases hlt : k < n ∧ k < 4096
    · obtain ⟨hlt, hlt2⟩ := hlt
      rcases HA.out with h0 | ⟨b, off, rfl, hc⟩
      · exfalso; have := HN.out; rw [h0] at this; simp at this; omega
      · have hck0 := hc k hlt
        have SN := Lib.hid (Mny.am_snoc us k (by have := HN.out; omega))
        obtain ⟨x, hx⟩ : ∃ x, x = us.getD k 0 := ⟨_, rfl⟩
        rw [← hx] at hck0 SN
        have hck := (hbl.cell (p := ⟨b, off + k, none⟩) (by have := World.block_lt_of_cell? _ _ hck0; have := HB.out; show b < B; simp at *; omega)).trans hck0
        clear hx hc hck0
        have d1 : decide (k < 4096) = true := decide_eq_true hlt2
        go_wp2_with (first | (go_at_call 13; refine (AM.out x _).mono ?_; rintro e w' ⟨rfl, rfl⟩)  | (at_builtin; refine wpList_append_own _ rfl _ _ 22 rfl B 3 i0 (.int .i64 0) 1 8 Tryd.underlying22 hi hz0 hz1 hz2 rfl (by decide) _ _ _ rfl (hown.alloc _) ⟨wr.heap.size, 0, none⟩ 1 1 [.int .i64 (x % 2000000000000001 - 1000000000000000)] rfl rfl ?c1 ?c2 ?c3 ?c4 ?c5 ?_))
        case c1 =>
          intro j u hj
          match j, hj with
          | 0, hj => simp at hj; subst hj; simp [Addr.add]
        case c2 => intro u hu; simp at hu; subst hu; rfl
        case c3 => unfold maxLen; omega
        case c4 => omega
        case c5 => have := hbl.size; have := HB.out; simp; omega
        · intro v' w1 hown' hgrow _
          have hb1 : Below B wa w1 := (hbl.alloc (by have := hbl.size; have := HB.out; omega) _).grown hgrow (by have := hbl.size; have := HB.out; simp only [World.size_alloc]; omega) (fun g hg => (hown.lt g hg).1)
          have R : Hid (w1.ownsRow B 3 1 v' (k + 1) ((Mny.am us (k + 1)).map (Value.int .i64))) := by
            show World.ownsRow _ _ _ _ _ _ _; rw [SN.out, List.map_append]; exact hown'
          clear hown' hgrow hown
          go_wp2
          go_roundw
          case rel => exact ⟨k + 1, by omega, by omega, by go_num, R.out, hb1⟩
          case measure => simp [intOf]; omega
    · have XR := Lib.hid (Mny.am_rt us k)
      have el := Mny.am_len us k (by have := HN.out; omega)
      obtain ⟨xs, hxs⟩ : ∃ xs, xs = Mny.am us k := ⟨_, rfl⟩
      rw [← hxs] at hown XR el
      have EL := Lib.hid el
      have hown2 : wr.ownsRow B 3 1 u5 xs.length (xs.map (Value.int .i64)) := by rw [el]; exact hown
      obtain ⟨a', c', hv, hS, hcap⟩ := own_sl hown2
      rw [el] at hv
      subst hv
      have SX := Lib.hid hS
      have HB2 := Lib.hid hbl
      obtain ⟨wo, hwo⟩ : ∃ x, x = wr := ⟨_, rfl⟩
      rw [← hwo] at HB2 SX ⊢
      obtain ⟨C, hC⟩ : ∃ C, C = wo.heap.size := ⟨_, rfl⟩
      have HC := Lib.hid hC
      obtain ⟨rs, hrs⟩ : ∃ rs, rs = xs.reverse := ⟨_, rfl⟩
      have RS := Lib.hid hrs
      have Bl2 : Below C wo wo := by rw [hC]; exact Below.refl _ _
      clear hown hown2 hS hbl hxs el hwo hC hrs
      by_cases h1 : k < n
      all_goals
        go_wp2
        go_loopw [6, 42] (fun v i wr => ∃ j : Nat, j ≤ k ∧ i = .int .i64 j ∧ wr.ownsRow C 3 1 v j ((rs.take j).map (Value.int .i64)) ∧ Below C wo wr) (fun _ i _ => k + 1 - (intOf i).toNat)
        case atStart => exact ⟨0, Nat.zero_le _, rfl, World.ownsRow_nil _ _ _ _, Bl2⟩
        case round =>
          obtain ⟨j, hj, rfl, hown, hbl⟩ := hrel
          by_cases hjk : j < k
          · obtain ⟨_, _, e2, hsl⟩ := SX.out
            obtain ⟨rfl, hN2, rfl⟩ := Value.slice.inj e2
            clear hN2 e2
            rcases hsl with h0 | ⟨b, off, rfl, hc⟩
            · exfalso; have := EL.out; rw [h0] at this; simp at this; omega
            · obtain ⟨m, hm1⟩ : ∃ m : Nat, m = k - 1 - j := ⟨_, rfl⟩
              have hm2 : (k : Int) - 1 - (j : Int) = (m : Int) := by omega
              have hck0 := hc m (by have := EL.out; omega)
              have SN := Lib.hid (Mny.rev_snoc xs j (by have := EL.out; omega))
              rw [show xs.length - 1 - j = m by have := EL.out; omega] at SN
              obtain ⟨x, hx⟩ : ∃ x, x = xs.getD m 0 := ⟨_, rfl⟩
              rw [← hx, ← RS.out] at SN
              rw [← hx] at hck0
              have hck := (hbl.cell (p := ⟨b, off + m, none⟩) (by have := World.block_lt_of_cell? _ _ hck0; have := HC.out; show b < C; simp at *; omega)).trans hck0
              have hmk : m < k := by omega
              clear hx hc hck0 hm1
              go_wp2_with (first | (at_builtin; refine wpList_append_own _ rfl _ _ 22 rfl C 3 i0 (.int .i64 0) 1 8 Tryd.underlying22 hi hz0 hz1 hz2 rfl (by decide) _ _ _ rfl (hown.alloc _) ⟨wr.heap.size, 0, none⟩ 1 1 [.int .i64 x] rfl rfl ?c1 ?c2 ?c3 ?c4 ?c5 ?_))
              case c1 =>
                intro j u hj
                match j, hj with
                | 0, hj => simp at hj; subst hj; simp [Addr.add]
              case c2 => intro u hu; simp at hu; subst hu; rfl
              case c3 => unfold maxLen; omega
              case c4 => omega
              case c5 => have := hbl.size; have := HC.out; simp; omega
              · intro v' w1 hown' hgrow _
                have hb1 : Below C wo w1 := (hbl.alloc (by have := hbl.size; have := HC.out; omega) _).grown hgrow (by have := hbl.size; have := HC.out; simp only [World.size_alloc]; omega) (fun g hg => (hown.lt g hg).1)
                have R : Hid (w1.ownsRow C 3 1 v' (j + 1) ((rs.take (j + 1)).map (Value.int .i64))) := by
                  show World.ownsRow _ _ _ _ _ _ _; rw [SN.out, List.map_append, List.map_take]; exact hown'
                clear hown' hgrow hown
                go_wp2
                go_roundw
                case rel => exact ⟨j + 1, by omega, by go_num, R.out, hb1⟩
                case measure => simp [intOf]; omega
          · obtain rfl : j = k := by omega
            have lr : rs.length = j := by rw [RS.out, List.length_reverse, EL.out]
            have er : rs.take j = rs := List.take_of_length_le (by omega)
            have hown2 : wr.ownsRow C 3 1 u6 rs.length (rs.map (Value.int .i64)) := by rw [lr]; rw [er] at hown; exact hown
            obtain ⟨a2, c2, hv, hS, hcap2⟩ := own_sl hown2
            rw [lr] at hv
            subst hv
            have slb := Lib.hid hS
            have slx : Hid (Sl wr (.slice a' j c') xs) := SX.out.below (by rw [← HC.out]; exact hbl)
            have SW : Hid (St w wr) := HS.out.step ((HB2.out.trans (hbl.mono (by have := HB2.out.size; have := HC.out; have := HB.out; omega))).mono (Nat.le_of_eq HB.out.symm))
            have ST := Lib.hid (Mny.sum_two XR.out (by have := EL.out; omega))
            have SRv := Lib.hid (RS.out ▸ Mny.sum_rev XR.out (by have := EL.out; omega) : Mny.sumE rs = Mny.sumE xs ∧ Mny.sumV rs = Mny.sumV xs)
            obtain ⟨q, hq⟩ : ∃ q : Nat, (q : Int) = y % ((j : Int) + 1) := ⟨(y % ((j : Int) + 1)).toNat, by have := Int.emod_nonneg y (show (j : Int) + 1 ≠ 0 by omega); omega⟩
            have qk : q ≤ j := by have := Int.emod_lt_of_pos y (show 0 < (j : Int) + 1 by omega); omega
            have PK := Lib.hid (fun w => pick_any y ((j : Int) + 1) w (by omega) (by omega))
            rw [← hq] at PK
            clear hown hown2 hS hbl er hq lr
            obtain ⟨E, hE⟩ : ∃ E, E = Mny.sumE xs := ⟨_, rfl⟩
            obtain ⟨V, hV⟩ : ∃ V, V = Mny.sumV xs := ⟨_, rfl⟩
            have SUM := Lib.hid (fun v w' h => sum_s v xs V E w' h hV.symm hE.symm)
            have SUB := Lib.hid (fun v w' h => sum_s v rs V E w' h (SRv.out.2.trans hV.symm) (SRv.out.1.trans hE.symm))
            have T := ST.out
            rw [← hE, ← hV] at T
            clear hE hV
            have hjc : j ≤ c' := by have := EL.out; omega
            have TQ := Lib.hid (Mny.sum_two (xs := xs.take q) (Mny.all_tk XR.out q) (by have := EL.out; rw [List.length_take]; omega))
            have TD := Lib.hid (Mny.sum_two (xs := xs.drop q) (Mny.all_dp XR.out q) (by have := EL.out; rw [List.length_drop]; omega))
            have SPL := Mny.sm_split xs q
            have LQ : (xs.take q).length = q := by rw [List.length_take]; have := EL.out; omega
            have LD : (xs.drop q).length = j - q := by rw [List.length_drop, EL.out]
            obtain ⟨E1, hE1⟩ : ∃ E, E = Mny.sumE (xs.take q) := ⟨_, rfl⟩
            obtain ⟨V1, hV1⟩ : ∃ V, V = Mny.sumV (xs.take q) := ⟨_, rfl⟩
            obtain ⟨E2, hE2⟩ : ∃ E, E = Mny.sumE (xs.drop q) := ⟨_, rfl⟩
            obtain ⟨V2, hV2⟩ : ∃ V, V = Mny.sumV (xs.drop q) := ⟨_, rfl⟩
            have SQ := Lib.hid (fun v w' h => sum_s v (xs.take q) V1 E1 w' h hV1.symm hE1.symm)
            have SD := Lib.hid (fun v w' h => sum_s v (xs.drop q) V2 E2 w' h hV2.symm hE2.symm)
            have T1 := TQ.out
            have T2 := TD.out
            rw [← hE1, ← hV1] at T1
            rw [← hE2, ← hV2] at T2
            -- what the sum of both parts answers
            have AD : Hid (E1 = 0 → E2 = 0 → Mny.sumV [V1, V2] = V ∧ Mny.sumE [V1, V2] = E) := by
              intro z1 z2
              rcases T1 with ⟨r1, _, v1⟩ | ⟨_, e1, _⟩
              · rcases T2 with ⟨r2, _, v2⟩ | ⟨_, e2, _⟩
                · have ha : [V1, V2].all Mny.rt = true := by rw [v1, v2]; simp [r1, r2]
                  have hs : Mny.sm [V1, V2] = Mny.sm xs := by rw [← SPL, v1, v2]; simp [Mny.sm]
                  have q2 := Mny.sum_two ha (by simp)
                  rw [hs] at q2
                  rcases T with ⟨t1, t2, t3⟩ | ⟨t1, t2, t3⟩ <;> rcases q2 with ⟨u1, u2, u3⟩ | ⟨u1, u2, u3⟩
                  · exact ⟨u3.trans t3.symm, u2.trans t2.symm⟩
                  · rw [t1] at u1; cases u1
                  · rw [t1] at u1; cases u1
                  · exact ⟨u3.trans t3.symm, u2.trans t2.symm⟩
                · omega
              · omega
            have AS := Lib.hid (fun w (z1 : E1 = 0) (z2 : E2 = 0) => add_s V1 V2 V E w (AD.out z1 z2).1 (AD.out z1 z2).2)
            have z1 : E1 = 0 ∨ E1 = 3 := by rcases T1 with h | h; exact Or.inl h.2.1; exact Or.inr h.2.1
            have z2 : E2 = 0 ∨ E2 = 3 := by rcases T2 with h | h; exact Or.inl h.2.1; exact Or.inr h.2.1
            have z3 : E = 0 ∨ E = 3 ∧ V = 0 := by rcases T with h | h; exact Or.inl h.2.1; exact Or.inr h.2
            -- the slices of both parts, in whatever way they come
            have SLQ : Hid (∀ A C, (A = a' ∨ A = a'.map (·.add 0)) → Sl wr (.slice A q C) (xs.take q)) := by
              intro A C hA
              obtain ⟨_, _, e2, hsl⟩ := slx.out
              obtain ⟨rfl, _, _⟩ := Value.slice.inj e2
              exact sl_take wr a' A q C xs hA LQ hsl
            have SLD : Hid (∀ A C, (A = a' ∧ q = j ∨ A = a'.map (·.add q)) → Sl wr (.slice A (j - q) C) (xs.drop q)) := by
              intro A C hA
              obtain ⟨_, _, e2, hsl⟩ := slx.out
              obtain ⟨rfl, _, _⟩ := Value.slice.inj e2
              exact sl_drop wr a' A q (j - q) C xs (by rcases hA with h | h; exact Or.inl ⟨h.1, by omega⟩; exact Or.inr h) LD (by have := EL.out; omega) hsl
            clear T T1 T2 SPL LQ LD hE1 hV1 hE2 hV2 TQ TD ST
            obtain ⟨A2, hA2⟩ : ∃ A, A = (if c' = q then a' else Option.map (fun x => x.add q) a') := ⟨_, rfl⟩
            have SL1 : Hid (Sl wr (.slice a' q c') (xs.take q)) := SLQ.out _ _ (Or.inl rfl)
            have SL2 : Hid (Sl wr (.slice A2 (j - q) (c' - q)) (xs.drop q)) := by
              refine SLD.out _ _ ?_
              rw [hA2]; split
              · exact Or.inl ⟨rfl, by omega⟩
              · exact Or.inr rfl
            have hA2' := hA2.symm
            have hqc : q ≤ c' := by omega
            clear hA2 SLQ SLD
            rcases z3 with rfl | ⟨rfl, rfl⟩ <;> rcases z1 with rfl | rfl <;> rcases z2 with rfl | rfl
            all_goals
              go_wp2_with (first | (go_at_call 16; (with_reducible refine (SUM.out _ _ slx.out).mono ?_); rintro e w' ⟨rfl, rfl⟩)  | (go_at_call 16; (with_reducible refine (SUB.out _ _ slb.out).mono ?_); rintro e w' ⟨rfl, rfl⟩)  | (go_at_call 17; refine (PK.out _).mono ?_; rintro e w' ⟨rfl, rfl⟩)  | (go_at_call 16; (with_reducible refine (SQ.out _ _ SL1.out).mono ?_); rintro e w' ⟨rfl, rfl⟩)  | (go_at_call 16; (with_reducible refine (SD.out _ _ SL2.out).mono ?_); rintro e w' ⟨rfl, rfl⟩)  | (go_at_call 20; (with_reducible refine (AS.out _ (by simp) (by simp)).mono ?_); rintro e w3 ⟨rfl, b3⟩))
              go_ret
              first
                | exact ⟨rfl, SW.out.bl⟩
                | exact ⟨rfl, (SW.out.step b3).bl⟩
                | (refine ⟨ret_bool ?_, SW.out.bl⟩; simp; done)
                | (refine ⟨ret_bool ?_, (SW.out.step b3).bl⟩; simp; done)
theorem walk_moneySums (w : World) (G : Gl w) (a : Option Addr) (len cap : Nat) (zs : List Int) (h : IsRow .i64 w a len cap zs) (y : Int) (y1 : 0 ≤ y) (y2 : y ≤ 65535) :
    Calls Tryd.prog 8 #[.slice a len cap, .int .u16 y] w fun e w' => e = .returned (.bool true) ∧ Below w.heap.size w w' := by
  obtain ⟨e, hm, hc, _⟩ := row_at h
  exact sums_any w G _ (zs.take len) ⟨a, cap, by rw [e], hc⟩ (by rw [e]; exact hm) y y1 y2
end Go.Proofs.YthdmgnlemmpjkaaDoor
