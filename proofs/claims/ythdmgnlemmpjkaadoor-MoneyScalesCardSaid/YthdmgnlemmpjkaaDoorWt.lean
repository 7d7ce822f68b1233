/- Contract of 'weights': weights for any numbers. -/
import Derived.Test.YthdmgnlemmpjkaaDoorPk
namespace Go.Proofs.YthdmgnlemmpjkaaDoor
open Go.RowKit

/-- A slice value of uint32s. -/
def Sw (w : World) (v : Value) (us : List Int) : Prop := ∃ (a : Option Addr) (c : Nat), v = .slice a us.length c ∧ us.length ≤ 9223372036854775807 ∧ (∀ x ∈ us, 0 ≤ x ∧ x ≤ 4294967295) ∧ (us = [] ∨ ∃ b off, a = some ⟨b, off, none⟩ ∧ ∀ j, j < us.length → w.cell? ⟨b, off + j, none⟩ = some (.int .u32 (us.getD j 0)))
theorem Sw.below {w w' : World} {v : Value} {us : List Int} (h : Sw w v us) (hb : Below w.heap.size w w') : Sw w' v us := by
  obtain ⟨a, c, rfl, hm, hx, h⟩ := h
  refine ⟨a, c, rfl, hm, hx, ?_⟩
  rcases h with h | ⟨b, off, rfl, h⟩
  · exact Or.inl h
  · exact Or.inr ⟨b, off, rfl, fun j hj => (hb.cell (World.block_lt_of_cell? _ _ (h j hj))).trans (h j hj)⟩
namespace Mny
/-- Weights made of numbers. -/
def m6 (us : List Int) (k : Nat) : List Int := (us.take k).map fun x => x % 1000001
def wts (us : List Int) : List Int := if sm (m6 us 4096) = 0 then [1] else m6 us 4096
theorem m6_len (us : List Int) (k : Nat) (h : k ≤ us.length) : (m6 us k).length = k := by unfold m6; rw [List.length_map, List.length_take]; omega
theorem m6_snoc (us : List Int) (k : Nat) (h : k < us.length) : m6 us (k + 1) = m6 us k ++ [us.getD k 0 % 1000001] := by
  unfold m6; rw [take_snoc us k h, List.map_append]; rfl
theorem m6_wt (us : List Int) (k : Nat) : (m6 us k).all wt = true := by
  rw [List.all_eq_true]; intro x hx
  obtain ⟨y, _, rfl⟩ := List.mem_map.1 hx
  rw [wt_iff]; omega
theorem m6_bd (us : List Int) (k : Nat) (h : k ≤ 4096) : 0 ≤ sm (m6 us k) ∧ sm (m6 us k) ≤ 4096000000 := by
  have a := sm_nonneg (m6_wt us k)
  have b := sm_le (m6_wt us k) (by unfold m6; rw [List.length_map, List.length_take]; omega)
  omega
theorem m6_end (us : List Int) (k : Nat) (_hk : k ≤ us.length) (h : k = us.length ∨ k = 4096) (h2 : k ≤ 4096) : m6 us 4096 = m6 us k := by
  unfold m6
  rcases h with h | h
  · rw [List.take_of_length_le (by omega), List.take_of_length_le (by omega)]
  · rw [h]
theorem wts_ok (us : List Int) : (wts us).all wt = true ∧ 1 ≤ sm (wts us) ∧ (wts us).length ≤ 4096 ∧ 1 ≤ (wts us).length := by
  unfold wts
  have b := m6_bd us 4096 (by omega)
  by_cases c : sm (m6 us 4096) = 0
  · rw [if_pos c]; decide
  · rw [if_neg c]
    refine ⟨m6_wt us 4096, by omega, by unfold m6; rw [List.length_map, List.length_take]; omega, ?_⟩
    cases e : m6 us 4096 with
    | nil => rw [e] at c; exact absurd rfl c
    | cons x l => simp
end Mny
set_option maxRecDepth 100000 in
set_option maxHeartbeats 3200000 in
theorem weights_any (v : Value) (us : List Int) (w : World) (h : Sw w v us) :
    Calls Tryd.prog 14 #[v] w fun e w' => ∃ a c, e = .returned (.slice a (Mny.wts us).length c) ∧ Sl w' (.slice a (Mny.wts us).length c) (Mny.wts us) ∧ Below w.heap.size w w' := by
  obtain ⟨a, c, rfl, hm, hx, h⟩ := h
  obtain ⟨n, hn⟩ : ∃ n, n = us.length := ⟨_, rfl⟩
  rw [← hn] at h hm ⊢
  have HN := Lib.hid hn
  have H := Lib.hid h
  have HX := Lib.hid hx
  obtain ⟨i0, hi, hz0, hz1, hz2⟩ := info_parts info_int
  obtain ⟨B, hB⟩ : ∃ B, B = w.heap.size := ⟨_, rfl⟩
  have HB := Lib.hid hB
  have Bl : Below B w w := by rw [hB]; exact Below.refl _ _
  clear hn h hx hB
  go_enter Tryd.func14, Tryd.ntmps14
  go_wp2
  go_loopw [3, 4, 5] (fun v l i wr => ∃ k : Nat, k ≤ n ∧ k ≤ 4096 ∧ i = .int .i64 k ∧ l = .int .i64 (Mny.sm (Mny.m6 us k)) ∧ wr.ownsRow B 3 1 v k ((Mny.m6 us k).map (Value.int .i64)) ∧ Below B w wr) (fun _ _ i _ => 4097 - (intOf i).toNat)
  case atStart => exact ⟨0, Nat.zero_le _, Nat.zero_le _, rfl, rfl, World.ownsRow_nil _ _ _ _, Bl⟩
  case round =>
    obtain ⟨k, hk, hk1, rfl, rfl, hown, hbl⟩ := hrel
    have bd := Mny.m6_bd us k hk1
    have bd2 := Mny.m6_bd us (k + 1)
    obtain ⟨p, hp⟩ : ∃ p, p = Mny.sm (Mny.m6 us k) := ⟨_, rfl⟩
    rw [← hp] at bd ⊢
    have HP := Lib.hid hp
    obtain ⟨bd1, bdu⟩ := bd
    clear hp bd2
    by_cases hlt : k < n ∧ k < 4096
    · obtain ⟨hlt, hlt2⟩ := hlt
      rcases H.out with h0 | ⟨b, off, rfl, hc⟩
      · exfalso; have := HN.out; rw [h0] at this; simp at this; omega
      · have hck0 := hc k (by have := HN.out; omega)
        have hxk := HX.out (us.getD k 0) (Mny.getD_mem (by have := HN.out; omega))
        have SN := Lib.hid (Mny.m6_snoc us k (by have := HN.out; omega))
        obtain ⟨x, hx⟩ : ∃ x, x = us.getD k 0 := ⟨_, rfl⟩
        rw [← hx] at hck0 hxk SN
        have hck := (hbl.cell (p := ⟨b, off + k, none⟩) (by have := World.block_lt_of_cell? _ _ hck0; have := HB.out; show b < B; simp at *; omega)).trans hck0
        clear hx hc hck0
        obtain ⟨hx1, hx2⟩ := hxk
        have d1 : decide (k < 4096) = true := decide_eq_true hlt2
        go_wp2_with (first | (at_builtin; refine wpList_append_own _ rfl _ _ 22 rfl B 3 i0 (.int .i64 0) 1 8 Tryd.underlying22 hi hz0 hz1 hz2 rfl (by decide) _ _ _ rfl (hown.alloc _) ⟨wr.heap.size, 0, none⟩ 1 1 [.int .i64 (x % 1000001)] rfl rfl ?c1 ?c2 ?c3 ?c4 ?c5 ?_))
        case c1 =>
          intro j u hj
          match j, hj with
          | 0, hj => simp at hj; subst hj; simp [Addr.add]
        case c2 => intro u hu; simp at hu; subst hu; rfl
        case c3 => unfold maxLen; omega
        case c4 => omega
        case c5 => have := hbl.size; have := HB.out; simp; omega
        · intro v' w1 hown' hgrow _
          have hb1 : Below B w w1 := (hbl.alloc (by have := hbl.size; have := HB.out; omega) _).grown hgrow (by have := hbl.size; have := HB.out; simp only [World.size_alloc]; omega) (fun g hg => (hown.lt g hg).1)
          have el : (Mny.m6 us (k + 1)).length = k + 1 := Mny.m6_len us (k + 1) (by have := HN.out; omega)
          have R : w1.ownsRow B 3 1 v' (k + 1) ((Mny.m6 us (k + 1)).map (Value.int .i64)) := by
            rw [SN.out, List.map_append]; exact hown'
          have R2 : w1.ownsRow B 3 1 v' (Mny.m6 us (k + 1)).length ((Mny.m6 us (k + 1)).map (Value.int .i64)) := by rw [el]; exact R
          obtain ⟨a', c', hv, hS, hcap⟩ := own_sl R2
          subst hv
          obtain ⟨a2, c2, e2, hS⟩ := hS
          obtain ⟨rfl, _, rfl⟩ := Value.slice.inj e2
          rcases hS with hS | ⟨g, og, rfl, hS⟩
          · exfalso; rw [hS] at el; simp at el
          · have hgk := hS k (by omega)
            have eg : (Mny.m6 us (k + 1)).getD k 0 = x % 1000001 := by
              rw [SN.out]
              have := Mny.getD_app_at (Mny.m6 us k) [] (x % 1000001)
              rw [Mny.m6_len us k (by have := HN.out; omega)] at this; exact this
            have es : Hid (Mny.sm (Mny.m6 us (k + 1)) = p + x % 1000001) := by
              show _ = _; rw [SN.out, Mny.sm_app, Mny.sm_one, HP.out]
            rw [eg] at hgk
            rw [el] at R ⊢
            have RR := Lib.hid R
            clear R R2 hS hown' hgrow hown e2 eg
            go_wp2
            go_roundw
            case rel => exact ⟨k + 1, by omega, by omega, by go_num, by rw [es.out], RR.out, hb1⟩
            case measure => simp [intOf]; omega
    · have hown2 : wr.ownsRow B 3 1 u3 (Mny.m6 us k).length ((Mny.m6 us k).map (Value.int .i64)) := by rw [Mny.m6_len us k (by have := HN.out; omega)]; exact hown
      obtain ⟨a', c', hv, hS, hcap⟩ := own_sl hown2
      have ME := Lib.hid (Mny.m6_end us k (by have := HN.out; omega) (by have := HN.out; omega) hk1)
      have SS : Hid (Sl wr (.slice a' (Mny.m6 us 4096).length c') (Mny.m6 us 4096)) := by
        show Sl _ _ _; rw [ME.out, ← hv]; exact hS
      have el : Hid ((Mny.m6 us 4096).length = k) := by show _ = _; rw [ME.out]; exact Mny.m6_len us k (by have := HN.out; omega)
      rw [Mny.m6_len us k (by have := HN.out; omega)] at hv hcap
      subst hv
      have HL := Lib.hid hown
      have BL := Lib.hid hbl
      clear hown hown2 hS
      by_cases z : p = 0
      · have WE : Hid (Mny.wts us = [1]) := by show _ = _; unfold Mny.wts; rw [if_pos (by rw [ME.out, ← HP.out, z])]
        by_cases h1 : k < n
        all_goals
          go_wp2
          go_ret
          refine ⟨_, _, by rw [WE.out]; rfl, ?_, ?_⟩
          · rw [WE.out]; exact ⟨_, _, rfl, Or.inr ⟨_, 0, rfl, fun j hj => by
              match j, hj with
              | 0, _ => exact cell_at _ _ _ 0 _ _ rfl rfl⟩⟩
          · have hb := BL.out
            rw [HB.out] at hb
            exact hb.alloc hb.size _
      · have WE : Hid (Mny.wts us = Mny.m6 us 4096) := by show _ = _; unfold Mny.wts; rw [if_neg (by rw [ME.out, ← HP.out]; exact z)]
        by_cases h1 : k < n
        all_goals
          go_wp2
          go_ret
          refine ⟨_, _, by rw [WE.out, el.out]; rfl, ?_, ?_⟩
          · rw [WE.out]; exact SS.out
          · have hb := BL.out
            rw [HB.out] at hb
            exact hb
end Go.Proofs.YthdmgnlemmpjkaaDoor
