/- MoneyScales: its walk. -/
import Derived.Test.YthdmgnlemmpjkaaDoorWt
import Derived.Test.YthdmgnlemmpjkaaDoorCMWhole
import Derived.Maps.AppendAt
namespace Go.Proofs.YthdmgnlemmpjkaaDoor
open Go.RowKit

namespace Mny
/-- The weights of the statement: up to 1000, and one more. -/
def m1 (ws : List Int) (k : Nat) : List Int := (ws.take k).map fun x => x % 1001
theorem m1_len (ws : List Int) (k : Nat) (h : k ≤ ws.length) : (m1 ws k).length = k := by unfold m1; rw [List.length_map, List.length_take]; omega
theorem m1_snoc (ws : List Int) (k : Nat) (h : k < ws.length) : m1 ws (k + 1) = m1 ws k ++ [ws.getD k 0 % 1001] := by
  unfold m1; rw [take_snoc ws k h, List.map_append]; rfl
theorem m1_bd (ws : List Int) (k : Nat) : ∀ x ∈ m1 ws k ++ [1], 0 ≤ x ∧ x ≤ 1000 := by
  intro x hx
  rcases List.mem_append.1 hx with hx | hx
  · obtain ⟨y, _, rfl⟩ := List.mem_map.1 hx
    omega
  · obtain rfl := List.mem_singleton.1 hx; omega
theorem sm_one_more (l : List Int) (h : ∀ x ∈ l ++ [1], 0 ≤ x ∧ x ≤ 1000) : 1 ≤ sm (l ++ [1]) := by
  rw [sm_app, sm_one]
  have := sm_bd l 0 1000 (fun x hx => h x (by simp [hx]))
  omega
theorem wt_of {l : List Int} (h : ∀ x ∈ l, 0 ≤ x ∧ x ≤ 1000) : l.all wt = true := by
  rw [List.all_eq_true]; intro x hx; rw [wt_iff]; have := h x hx; omega
/-- Weights multiplied, round by round. -/
theorem mul_snoc (k : Int) (ws : List Int) (j : Nat) (h : j < ws.length) : ((ws.take (j + 1)).map fun x => k * x) = ((ws.take j).map fun x => k * x) ++ [k * ws.getD j 0] := by
  rw [take_snoc ws j h, List.map_append]; rfl
def mlk (k : Int) (ws : List Int) (j : Nat) : List Int := (ws.take j).map fun x => k * x
theorem mlk_snoc (k : Int) (ws : List Int) (j : Nat) (h : j < ws.length) : mlk k ws (j + 1) = mlk k ws j ++ [k * ws.getD j 0] := mul_snoc k ws j h
theorem mul_wt {k : Int} {ws : List Int} (k1 : 1 ≤ k) (k2 : k ≤ 1000) (h : ∀ x ∈ ws, 0 ≤ x ∧ x ≤ 1000) : (ws.map fun x => k * x).all wt = true := by
  rw [List.all_eq_true]; intro y hy
  obtain ⟨x, hx, rfl⟩ := List.mem_map.1 hy
  have b := h x hx
  rw [wt_iff]
  have a1 : 0 ≤ k * x := Int.mul_nonneg (by omega) b.1
  have a2 : k * x ≤ 1000 * 1000 := Int.mul_le_mul k2 b.2 b.1 (by omega)
  omega
theorem mul_sm {k : Int} {ws : List Int} (k1 : 1 ≤ k) (h : 1 ≤ sm ws) : 1 ≤ sm (ws.map fun x => k * x) := by
  rw [sm_mul]
  have : 1 * 1 ≤ k * sm ws := Int.mul_le_mul k1 h (by omega) (by omega)
  omega
theorem gpn_t {b : Nat → Bool} {ws : List Int} {k : Nat} (h : b k = true) : gpn b ws (k + 1) = gpn b ws k ++ [0] ++ [ws.getD k 0] := by
  show gpn b ws k ++ _ = _; rw [if_pos h]; simp
theorem gpn_f {b : Nat → Bool} {ws : List Int} {k : Nat} (h : b k = false) : gpn b ws (k + 1) = gpn b ws k ++ [ws.getD k 0] := by
  show gpn b ws k ++ _ = _; rw [if_neg (by simp [h])]
theorem atn_t {b : Nat → Bool} {ws : List Int} {k : Nat} (h : b k = true) : atn b ws (k + 1) = atn b ws k ++ [((gpn b ws k).length : Int) + 1] := by
  show atn b ws k ++ _ = _; rw [if_pos h]
theorem atn_f {b : Nat → Bool} {ws : List Int} {k : Nat} (h : b k = false) : atn b ws (k + 1) = atn b ws k ++ [((gpn b ws k).length : Int)] := by
  show atn b ws k ++ _ = _; rw [if_neg (by simp [h])]; simp
/-- The split with zeros between the weights. -/
theorem split_gap (c : Int) (b : Nat → Bool) (ws : List Int) (i : Nat) (hi : i < ws.length) :
    (split c (gpn b ws ws.length)).getD ((atn b ws ws.length).getD i 0).toNat 0 = (split c ws).getD i 0 := by
  have e1 : sm (gpn b ws ws.length) = sm ws := by rw [gpn_sm b ws _ (Nat.le_refl _), List.take_length]
  have f0 : (fun x => c * x / sm ws) 0 = 0 := by simp
  have e2 : sm ((gpn b ws ws.length).map fun x => c * x / sm ws) = sm (ws.map fun x => c * x / sm ws) := by rw [gpn_map _ f0 b ws _ (Nat.le_refl _), List.take_length]
  unfold split
  rw [e1, e2, gpn_at _ _ b ws _ (Nat.le_refl _) i hi, List.take_length]
theorem split_at0 (c : Int) (ws : List Int) (i : Nat) (h : ws.getD i 0 = 0) : (split c ws).getD i 0 = 0 :=
  give_at0 _ (by simp) ws _ i h
end Mny
theorem split_s (v : Value) (xs : List Int) (c : Int) (n : Nat) (w : World) (h : Sl w v xs) (hn : n = xs.length) (hl : n ≤ 4096) (h1 : xs.all Mny.wt = true) (h2 : 1 ≤ Mny.sm xs) (c1 : -1000000000000000 ≤ c) (c2 : c ≤ 1000000000000000) (zs : List Int) (hz : Mny.split c xs = zs) :
    Calls Tryd.prog 15 #[.int .i64 c, v] w fun e w' => ∃ g, e = .returned (.tuple #[.slice (some ⟨g, 0, none⟩) n n, .int .i64 0]) ∧ Sl w' (.slice (some ⟨g, 0, none⟩) n n) zs ∧ Below w.heap.size w w' := by
  subst hn
  refine (split_ok v xs c w h hl ((Mny.okS_iff c xs).2 ⟨h1, h2, (Mny.rt_iff c).2 ⟨c1, c2⟩⟩)).mono ?_
  rintro e w' ⟨g, rfl, _, hown, hb⟩
  rw [hz] at hown
  have el : zs.length = xs.length := by rw [← hz, Mny.split_len]
  have hown' : w'.ownsRow w.heap.size 3 1 (.slice (some ⟨g, 0, none⟩) xs.length xs.length) zs.length (zs.map (Value.int .i64)) := by rw [el]; exact hown
  obtain ⟨a, k, e2, hs, _⟩ := own_sl hown'
  exact ⟨g, rfl, hs, hb⟩
theorem sl_cells {w : World} {a : Option Addr} {n c : Nat} {zs : List Int} (h : Sl w (.slice a n c) zs) (hn : 1 ≤ n) : ∃ b off, a = some ⟨b, off, none⟩ ∧ ∀ i, i < n → w.cell? ⟨b, off + i, none⟩ = some (.int .i64 (zs.getD i 0)) := by
  obtain ⟨_, _, e, h⟩ := h
  obtain ⟨rfl, e2, rfl⟩ := Value.slice.inj e
  rcases h with h | ⟨b, off, rfl, h⟩
  · rw [h] at e2; simp at e2; omega
  · exact ⟨b, off, rfl, fun i hi => h i (by omega)⟩
theorem sl_at {w : World} {g n c : Nat} {zs : List Int} (h : Sl w (.slice (some ⟨g, 0, none⟩) n c) zs) (hn : 1 ≤ n) : ∀ i, i < n → w.cell? ⟨g, i, none⟩ = some (.int .i64 (zs.getD i 0)) := by
  obtain ⟨b, off, e, h⟩ := sl_cells h hn
  cases e
  intro i hi
  have := h i hi
  rwa [Nat.zero_add] at this
/-- Two slices of the call's own that share no block. -/
def Ap (u v : Value) : Prop := u.ownBlock = none ∨ v.ownBlock = none ∨ u.ownBlock ≠ v.ownBlock
theorem Ap.symm {u v : Value} (h : Ap u v) : Ap v u := by
  rcases h with h | h | h
  · exact Or.inr (Or.inl h)
  · exact Or.inl h
  · exact Or.inr (Or.inr (Ne.symm h))
theorem Ap.ne {u v : Value} (h : Ap u v) : u.ownBlock = none ∨ u.ownBlock ≠ v.ownBlock := by
  rcases h with h | h | h
  · exact Or.inl h
  · cases e : u.ownBlock with
    | none => exact Or.inl rfl
    | some k => right; rw [h]; simp
  · exact Or.inr h
theorem Ap.next {u u' v : Value} {s : Nat} (h : Ap u v) (hu : u'.ownBlock = u.ownBlock ∨ u'.ownBlock = some s) (hv : ∀ k, v.ownBlock = some k → k < s) : Ap u' v := by
  rcases hu with hu | hu
  · rcases h with h | h | h
    · exact Or.inl (hu.trans h)
    · exact Or.inr (Or.inl h)
    · exact Or.inr (Or.inr (by rw [hu]; exact h))
  · cases e : v.ownBlock with
    | none => exact Or.inr (Or.inl e)
    | some k =>
      have := hv k e
      refine Or.inr (Or.inr ?_)
      rw [hu, e]; simp; omega
theorem Ap.nil (v : Value) : Ap (.slice none 0 0) v := Or.inl rfl
/-- The bit that tells whether a zero stands ahead. -/
def bbOf (z : Int) (j : Nat) : Bool := bits BinOp.and IntKind.u16 (z / 2 ^ (j % 16)) 1 == 1
set_option maxRecDepth 100000 in
set_option maxHeartbeats 3200000 in
theorem scales_any (w : World) (G : Gl w) (n : Int) (v : Value) (us : List Int) (h : Sw w v us) (by' : Int) (z : Int) (_z1 : 0 ≤ z) (_z2 : z ≤ 65535) :
    Calls Tryd.prog 7 #[.int .i64 n, v, .int .i64 by', .int .u16 z] w fun e w' => e = .returned (.bool true) ∧ Below w.heap.size w w' := by
  have PA := Lib.hid (fun w => amount_any n w)
  have PB := Lib.hid (fun w => pick_any by' 1000 w (by omega) (by omega))
  have WA := Lib.hid (fun w' (b : Below w.heap.size w w') => weights_any v us w' (h.below b))
  obtain ⟨c, hc⟩ : ∃ c, c = n % 2000000000000001 - 1000000000000000 := ⟨_, rfl⟩
  obtain ⟨f, hf⟩ : ∃ f, f = by' % 1000 := ⟨_, rfl⟩
  have c1 : -1000000000000000 ≤ c := by omega
  have c2 : c ≤ 1000000000000000 := by omega
  have f1 : 0 ≤ f := by omega
  have f2 : f ≤ 999 := by omega
  rw [← hc] at PA
  rw [← hf] at PB
  obtain ⟨_, _, k3, k4⟩ := Mny.wts_ok us
  have K1 := Lib.hid (Mny.wts_ok us).1
  obtain ⟨ws, hws⟩ : ∃ ws, ws = Mny.wts us := ⟨_, rfl⟩
  rw [← hws] at WA k3 k4 K1
  obtain ⟨N, hN⟩ : ∃ N, N = ws.length := ⟨_, rfl⟩
  rw [← hN] at WA k3 k4
  have HN := Lib.hid hN
  obtain ⟨i0, hi, hz0, hz1, hz2⟩ := info_parts info_int
  obtain ⟨a, ca, rfl, _, _, _⟩ := h
  clear hc hf hws hN
  go_enter Tryd.func7, Tryd.ntmps7
  go_wp2_with (first | (go_at_call 11; refine (awake_any w _ (St.refl G)).mono ?_; rintro e wa ⟨rfl, S0⟩)  | (go_at_call 13; refine (PA.out _).mono ?_; rintro e w' ⟨rfl, rfl⟩)  | (go_at_call 17; refine (PB.out _).mono ?_; rintro e w' ⟨rfl, rfl⟩)  | (go_at_call 14; refine (WA.out _ S0.bl).mono ?_; rintro e w1 ⟨aw, cw, rfl, sl1, b1⟩))
  have HS := Lib.hid (S0.step b1)
  obtain ⟨_, _, e2, hsl⟩ := sl1
  obtain ⟨rfl, hN2, rfl⟩ := Value.slice.inj e2
  clear hN2
  rcases hsl with h0 | ⟨b, off, rfl, hcl⟩
  · exfalso; have := HN.out; rw [h0] at this; simp at this; omega
  have WC := Lib.hid hcl
  obtain ⟨B, hB⟩ : ∃ B, B = w1.heap.size := ⟨_, rfl⟩
  have HB := Lib.hid hB
  have Bl : Below B w1 w1 := by rw [hB]; exact Below.refl _ _
  clear e2 hcl S0 b1 hB
  -- loop 1: the weights
  go_loopw [11, 39] (fun v i wr => ∃ k : Nat, k ≤ N ∧ i = .int .i64 k ∧ ∃ m : Nat, m = min k 2047 ∧ wr.ownsRow B 3 1 v m ((Mny.m1 ws m).map (Value.int .i64)) ∧ Below B w1 wr) (fun _ i _ => N + 1 - (intOf i).toNat)
  case atStart => exact ⟨0, Nat.zero_le _, rfl, 0, rfl, World.ownsRow_nil _ _ _ _, Bl⟩
  case round =>
    obtain ⟨k, hk, rfl, m, hm, hown, hbl⟩ := hrel
    have HM := Lib.hid hm
    by_cases hlt : k < N
    · have hck0 := WC.out k (by have := HN.out; omega)
      have hck := (hbl.cell (p := ⟨b, off + k, none⟩) (by have := World.block_lt_of_cell? _ _ hck0; have := HB.out; show b < B; simp at *; omega)).trans hck0
      have wb := Mny.wt_bd K1.out (ws.getD k 0) (Mny.getD_mem (by have := HN.out; omega))
      have SN : k = m → Mny.m1 ws (k + 1) = Mny.m1 ws m ++ [ws.getD k 0 % 1001] := fun e => by rw [← e]; exact Mny.m1_snoc ws k (by have := HN.out; omega)
      have SN := Lib.hid SN
      have lm : (Mny.m1 ws m).length = m := Mny.m1_len ws m (by have := HN.out; omega)
      have hown2 : wr.ownsRow B 3 1 u11 (Mny.m1 ws m).length ((Mny.m1 ws m).map (Value.int .i64)) := by rw [lm]; exact hown
      obtain ⟨a', c', hv, hS, hcap⟩ := own_sl hown2
      rw [lm] at hv
      subst hv
      obtain ⟨x, hx⟩ : ∃ x, x = ws.getD k 0 := ⟨_, rfl⟩
      rw [← hx] at hck wb SN
      obtain ⟨wb1, wb2⟩ := wb
      clear hx hck0 hown2 hS hcap lm hm
      by_cases h2 : k < 2047
      · have hkm : m = k := by have := HM.out; omega
        subst hkm
        clear HM
        go_wp2_with (first | (at_builtin; refine wpList_append_own _ rfl _ _ 22 rfl B 3 i0 (.int .i64 0) 1 8 Tryd.underlying22 hi hz0 hz1 hz2 rfl (by decide) _ _ _ rfl (hown.alloc _) ⟨wr.heap.size, 0, none⟩ 1 1 [.int .i64 (x % 1001)] rfl rfl ?q1 ?q2 ?q3 ?q4 ?q5 ?_))
        case q2 => rfl
        case q3 => unfold maxLen; omega
        case q4 => omega
        case q5 => have := hbl.size; have := HB.out; simp; omega
        · intro v' w2 hown' hgrow _
          have hb1 : Below B w1 w2 := (hbl.alloc (by have := hbl.size; have := HB.out; omega) _).grown hgrow (by have := hbl.size; have := HB.out; simp only [World.size_alloc]; omega) (fun g hg => (hown.lt g hg).1)
          have R : Hid (w2.ownsRow B 3 1 v' (m + 1) ((Mny.m1 ws (m + 1)).map (Value.int .i64))) := by
            show World.ownsRow _ _ _ _ _ _ _; rw [SN.out (by simp), List.map_append]; exact hown'
          clear hown' hgrow hown
          go_wp2
          go_roundw
          case rel => exact ⟨m + 1, by omega, by go_num, m + 1, by omega, R.out, hb1⟩
          case measure => simp [intOf]; omega
      · have hkm : m = 2047 := by have := HM.out; omega
        subst hkm
        clear HM
        have OW := Lib.hid hown
        clear hown
        go_wp2
        go_roundw
        case rel => exact ⟨k + 1, by omega, by go_num, 2047, by omega, OW.out, hbl⟩
        case measure => simp [intOf]; omega
    · obtain rfl : k = N := by omega
      have mk : m ≤ 2047 := by have := HM.out; omega
      have ml : m ≤ ws.length := by have := HM.out; have := HN.out; omega
      clear hm HM
      -- the one more
      obtain ⟨wo, hwo⟩ : ∃ x, x = wr := ⟨_, rfl⟩
      rw [← hwo] at hown hbl ⊢
      clear hwo
      have lm : (Mny.m1 ws m).length = m := Mny.m1_len ws m ml
      have hown2 : wo.ownsRow B 3 1 u11 (Mny.m1 ws m).length ((Mny.m1 ws m).map (Value.int .i64)) := by rw [lm]; exact hown
      obtain ⟨a', c', hv, hS, hcap⟩ := own_sl hown2
      rw [lm] at hv
      subst hv
      clear hown2 hS hcap
      go_wp2_with (first | (at_builtin; refine wpList_append_own _ rfl _ _ 22 rfl B 3 i0 (.int .i64 0) 1 8 Tryd.underlying22 hi hz0 hz1 hz2 rfl (by decide) _ _ _ rfl (hown.alloc _) ⟨wo.heap.size, 0, none⟩ 1 1 [.int .i64 1] rfl rfl ?r1 ?r2 ?r3 ?r4 ?r5 ?_))
      case r1 =>
        intro j u hj
        match j, hj with
        | 0, hj => simp at hj; subst hj; simp [Addr.add]
      case r2 => intro u hu; simp at hu; subst hu; rfl
      case r3 => unfold maxLen; omega
      case r4 => omega
      case r5 => have := hbl.size; have := HB.out; simp; omega
      intro v' w2 hown' hgrow _
      have hb2 : Below B w1 w2 := (hbl.alloc (by have := hbl.size; have := HB.out; omega) _).grown hgrow (by have := hbl.size; have := HB.out; simp only [World.size_alloc]; omega) (fun g hg => (hown.lt g hg).1)
      have MB := Lib.hid (Mny.m1_bd ws m)
      have el : (Mny.m1 ws m ++ [1]).length = m + 1 := by rw [List.length_append, lm]; rfl
      obtain ⟨xs, hxs⟩ : ∃ xs, xs = Mny.m1 ws m ++ [1] := ⟨_, rfl⟩
      have X1 := Lib.hid (Mny.sm_one_more (Mny.m1 ws m) MB.out)
      rw [← hxs] at MB el X1
      have hown3 : w2.ownsRow B 3 1 v' xs.length (xs.map (Value.int .i64)) := by rw [el, hxs, List.map_append]; exact hown'
      obtain ⟨ax, cx, hv2, hX, _⟩ := own_sl hown3
      obtain ⟨M, hM⟩ : ∃ M, M = xs.length := ⟨_, rfl⟩
      rw [← hM] at hv2
      subst hv2
      have HM := Lib.hid hM
      have M1 : 1 ≤ M := by omega
      have M2 : M ≤ 2048 := by omega
      obtain ⟨_, _, e3, hsx⟩ := hX
      obtain ⟨rfl, hN3, rfl⟩ := Value.slice.inj e3
      clear hN3 e3
      rcases hsx with h0 | ⟨bx, ox, rfl, hcx⟩
      · exfalso; rw [h0] at hM; simp at hM; omega
      have XC := Lib.hid hcx
      have S2 : St w w2 := HS.out.step (hb2.mono (Nat.le_of_eq HB.out.symm))
      have HS2 := Lib.hid S2
      obtain ⟨C, hC⟩ : ∃ C, C = w2.heap.size := ⟨_, rfl⟩
      have HC := Lib.hid hC
      have Bl2 : Below C w2 w2 := by rw [hC]; exact Below.refl _ _
      clear hown' hown3 hgrow hown hbl hb2 hxs hM el lm hcx S2 hC WC
      go_wp2
      go_loopw [12, 13, 14, 57] (fun mo ga at' i wr => ∃ j : Nat, j ≤ M ∧ i = .int .i64 j ∧ wr.ownsRow C 3 1 mo j ((Mny.mlk (1 + f) xs j).map (Value.int .i64)) ∧  (∃ gl : Nat, gl = (Mny.gpn (bbOf z) xs j).length ∧ wr.ownsRow C 3 1 ga gl ((Mny.gpn (bbOf z) xs j).map (Value.int .i64))) ∧  wr.ownsRow C 3 1 at' j ((Mny.atn (bbOf z) xs j).map (Value.int .i64)) ∧ Ap mo ga ∧ Ap mo at' ∧ Ap ga at' ∧ Below C w2 wr) (fun _ _ _ i _ => M + 1 - (intOf i).toNat)
      case atStart => exact ⟨0, Nat.zero_le _, rfl, World.ownsRow_nil _ _ _ _, ⟨0, rfl, World.ownsRow_nil _ _ _ _⟩, World.ownsRow_nil _ _ _ _, Ap.nil _, Ap.nil _, Ap.nil _, Bl2⟩
      case round =>
        obtain ⟨j, hj, rfl, ho1, ⟨gl, hgl, ho2⟩, ho3, p1, p2, p3, hbl⟩ := hrel
        by_cases hlt : j < M
        · have hck0 := XC.out j (by have := HM.out; omega)
          have hck := (hbl.cell (p := ⟨bx, ox + j, none⟩) (by have := World.block_lt_of_cell? _ _ hck0; have := HC.out; show bx < C; simp at *; omega)).trans hck0
          have xb := MB.out (xs.getD j 0) (Mny.getD_mem (by have := HM.out; omega))
          have SN1 := Lib.hid (Mny.mlk_snoc (1 + f) xs j (by have := HM.out; omega))
          obtain ⟨x, hx⟩ : ∃ x, x = xs.getD j 0 := ⟨_, rfl⟩
          rw [← hx] at hck xb SN1
          have HX := Lib.hid hx
          obtain ⟨xb1, xb2⟩ := xb
          have P1 : 0 ≤ (1 + f) * x := Int.mul_nonneg (by omega) xb1
          have P2 : (1 + f) * x ≤ 1000 * 1000 := Int.mul_le_mul (by omega) xb2 xb1 (by omega)
          obtain ⟨y, hy⟩ : ∃ y, y = (1 + f) * x := ⟨_, rfl⟩
          rw [← hy] at P1 P2 SN1
          have hy' := hy.symm
          clear hy hx hck0
          obtain ⟨a13, k13, hv13, _, _⟩ := own_sl (v := u13) (zs := Mny.gpn (bbOf z) xs j) (by rw [← hgl]; exact ho2)
          rw [← hgl] at hv13
          subst hv13
          have gb := Mny.gpn_len (bbOf z) xs j
          rw [← hgl] at gb
          obtain ⟨gb1, gb2⟩ := gb
          have HG := Lib.hid hgl
          clear hgl
          go_wp2_with (first | (at_builtin; refine wpList_append_own_at _ rfl _ _ 22 rfl C 3 i0 (.int .i64 0) 1 8 Tryd.underlying22 hi hz0 hz1 hz2 rfl (by decide) _ _ _ rfl (ho1.alloc _) ⟨wr.heap.size, 0, none⟩ 1 1 [.int .i64 y] rfl rfl ?s1 ?s2 ?s3 ?s4 ?s5 ?_))
          try case s1 =>
            intro j u hj
            match j, hj with
            | 0, hj => simp at hj; subst hj; simp [Addr.add]
          try case s2 => first | rfl | (intro u hu; simp at hu; subst hu; rfl)
          try case s3 => unfold maxLen; omega
          try case s4 => omega
          try case s5 => have := hbl.size; have := HC.out; simp; omega
          intro v1 wA ro1 gr1 _ nb1
          have bwA : Below C w2 wA := (hbl.alloc (by have := hbl.size; have := HC.out; omega) _).grown gr1 (by have := hbl.size; have := HC.out; simp only [World.size_alloc]; omega) (fun g hg => (ho1.lt g hg).1)
          have ra2 := (ho2.alloc (Obj.cells #[.int .i64 y] 3)).kept gr1 p1.symm.ne
          have ra3 := (ho3.alloc (Obj.cells #[.int .i64 y] 3)).kept gr1 p2.symm.ne
          have q1 := Ap.next (u' := v1) p1 (by first | exact nb1 | (rw [World.size_alloc] at nb1; exact nb1)) (fun k hk => by have := (ho2.lt k hk).2; omega)
          have q2 := Ap.next (u' := v1) p2 (by first | exact nb1 | (rw [World.size_alloc] at nb1; exact nb1)) (fun k hk => by have := (ho3.lt k hk).2; omega)
          have R1 : Hid (wA.ownsRow C 3 1 v1 (j + 1) ((Mny.mlk (1 + f) xs (j + 1)).map (Value.int .i64))) := by
            show World.ownsRow _ _ _ _ _ _ _; rw [SN1.out, List.map_append]; exact ro1
          clear ro1 gr1 nb1 ho1 ho2 ho3 p1 p2
          cases hbb : bbOf z j
          · have hb' : (bits BinOp.and IntKind.u16 (z / 2 ^ (j % 16)) 1 == 1) = false := hbb
            have GS := Lib.hid (Mny.gpn_f (ws := xs) hbb)
            have AS := Lib.hid (Mny.atn_f (ws := xs) hbb)
            rw [← HX.out] at GS
            rw [← HG.out] at AS
            clear hbb
            go_wp2_with (first | (at_builtin; refine wpList_append_own_at _ rfl _ _ 22 rfl C 3 i0 (.int .i64 0) 1 8 Tryd.underlying22 hi hz0 hz1 hz2 rfl (by decide) _ _ _ rfl (ra3.alloc _) ⟨wA.heap.size, 0, none⟩ 1 1 [.int .i64 (gl : Int)] rfl rfl ?t1 ?t2 ?t3 ?t4 ?t5 ?_))
            try case t1 =>
              intro j u hj
              match j, hj with
              | 0, hj => simp at hj; subst hj; simp [Addr.add]
            try case t2 => first | rfl | (intro u hu; simp at hu; subst hu; rfl)
            try case t3 => unfold maxLen; omega
            try case t4 => omega
            try case t5 => have := bwA.size; have := HC.out; simp; omega
            intro v3 wB ro3 gr3 _ nb3
            have bwB : Below C w2 wB := (bwA.alloc (by have := bwA.size; have := HC.out; omega) _).grown gr3 (by have := bwA.size; have := HC.out; simp only [World.size_alloc]; omega) (fun g hg => (ra3.lt g hg).1)
            have rb1 := (R1.out.alloc (Obj.cells #[.int .i64 (gl : Int)] 3)).kept gr3 q2.ne
            have rb2 := (ra2.alloc (Obj.cells #[.int .i64 (gl : Int)] 3)).kept gr3 p3.ne
            have q3 := Ap.next (u' := v3) q2.symm (by first | exact nb3 | (rw [World.size_alloc] at nb3; exact nb3)) (fun k hk => by have := (R1.out.lt k hk).2; omega)
            have q4 := Ap.next (u' := v3) p3.symm (by first | exact nb3 | (rw [World.size_alloc] at nb3; exact nb3)) (fun k hk => by have := (ra2.lt k hk).2; omega)
            have R3 : Hid (wB.ownsRow C 3 1 v3 (j + 1) ((Mny.atn (bbOf z) xs (j + 1)).map (Value.int .i64))) := by
              show World.ownsRow _ _ _ _ _ _ _; rw [AS.out, List.map_append]; exact ro3
            clear ro3 gr3 nb3 ra3 ra2
            go_wp2_with (first | (at_builtin; refine wpList_append_own_at _ rfl _ _ 22 rfl C 3 i0 (.int .i64 0) 1 8 Tryd.underlying22 hi hz0 hz1 hz2 rfl (by decide) _ _ _ rfl (rb2.alloc _) ⟨wB.heap.size, 0, none⟩ 1 1 [.int .i64 x] rfl rfl ?u1 ?u2 ?u3 ?u4 ?u5 ?_))
            try case u1 =>
              intro j u hj
              match j, hj with
              | 0, hj => simp at hj; subst hj; simp [Addr.add]
            try case u2 => first | rfl | (intro u hu; simp at hu; subst hu; rfl)
            try case u3 => unfold maxLen; omega
            try case u4 => omega
            try case u5 => have := bwB.size; have := HC.out; simp; omega
            intro v2 wC ro2 gr2 _ nb2
            have bwC : Below C w2 wC := (bwB.alloc (by have := bwB.size; have := HC.out; omega) _).grown gr2 (by have := bwB.size; have := HC.out; simp only [World.size_alloc]; omega) (fun g hg => (rb2.lt g hg).1)
            have rc1 := (rb1.alloc (Obj.cells #[.int .i64 x] 3)).kept gr2 q1.ne
            have rc3 := (R3.out.alloc (Obj.cells #[.int .i64 x] 3)).kept gr2 q4.ne
            have q5 := Ap.next (u' := v2) q1.symm (by first | exact nb2 | (rw [World.size_alloc] at nb2; exact nb2)) (fun k hk => by have := (rb1.lt k hk).2; omega)
            have q6 := Ap.next (u' := v2) q4.symm (by first | exact nb2 | (rw [World.size_alloc] at nb2; exact nb2)) (fun k hk => by have := (R3.out.lt k hk).2; omega)
            have R2 : Hid (wC.ownsRow C 3 1 v2 (gl + 1) ((Mny.gpn (bbOf z) xs (j + 1)).map (Value.int .i64))) := by
              show World.ownsRow _ _ _ _ _ _ _; rw [GS.out, List.map_append]; exact ro2
            have lg : Hid (gl + 1 = (Mny.gpn (bbOf z) xs (j + 1)).length) := by show _ = _; rw [GS.out, List.length_append, ← HG.out]; rfl
            clear ro2 gr2 nb2
            go_wp2
            go_roundw
            case rel => exact ⟨j + 1, by omega, by go_num, rc1, ⟨gl + 1, lg.out, R2.out⟩, rc3, q5.symm, q3.symm, q6, bwC⟩
            case measure => simp [intOf]; omega
          · have hb' : (bits BinOp.and IntKind.u16 (z / 2 ^ (j % 16)) 1 == 1) = true := hbb
            have GS := Lib.hid (Mny.gpn_t (ws := xs) hbb)
            have AS := Lib.hid (Mny.atn_t (ws := xs) hbb)
            rw [← HX.out] at GS
            rw [← HG.out] at AS
            clear hbb
            go_wp2_with (first | (at_builtin; refine wpList_append_own_at _ rfl _ _ 22 rfl C 3 i0 (.int .i64 0) 1 8 Tryd.underlying22 hi hz0 hz1 hz2 rfl (by decide) _ _ _ rfl (ra2.alloc _) ⟨wA.heap.size, 0, none⟩ 1 1 [.int .i64 0] rfl rfl ?o1 ?o2 ?o3 ?o4 ?o5 ?_))
            try case o1 =>
              intro j u hj
              match j, hj with
              | 0, hj => simp at hj; subst hj; simp [Addr.add]
            try case o2 => first | rfl | (intro u hu; simp at hu; subst hu; rfl)
            try case o3 => unfold maxLen; omega
            try case o4 => omega
            try case o5 => have := bwA.size; have := HC.out; simp; omega
            intro v0 wZ ro0 gr0 _ nb0
            have bwZ : Below C w2 wZ := (bwA.alloc (by have := bwA.size; have := HC.out; omega) _).grown gr0 (by have := bwA.size; have := HC.out; simp only [World.size_alloc]; omega) (fun g hg => (ra2.lt g hg).1)
            have rz1 := (R1.out.alloc (Obj.cells #[.int .i64 0] 3)).kept gr0 q1.ne
            have rz3 := (ra3.alloc (Obj.cells #[.int .i64 0] 3)).kept gr0 p3.symm.ne
            have z1' := Ap.next (u' := v0) q1.symm (by first | exact nb0 | (rw [World.size_alloc] at nb0; exact nb0)) (fun k hk => by have := (R1.out.lt k hk).2; omega)
            have z3 := Ap.next (u' := v0) p3 (by first | exact nb0 | (rw [World.size_alloc] at nb0; exact nb0)) (fun k hk => by have := (ra3.lt k hk).2; omega)
            have R0 : wZ.ownsRow C 3 1 v0 (gl + 1) ((Mny.gpn (bbOf z) xs j ++ [0]).map (Value.int .i64)) := by
              rw [List.map_append]; exact ro0
            obtain ⟨a14, k14, hv14, _, _⟩ := own_sl (v := v0) (zs := Mny.gpn (bbOf z) xs j ++ [0]) (by rw [List.length_append, ← HG.out]; exact R0)
            rw [List.length_append, ← HG.out] at hv14
            have hv14 : v0 = Value.slice a14 (gl + 1) k14 := hv14
            subst hv14
            have R0 := Lib.hid R0
            clear ro0 gr0 nb0 ra2 ra3
            go_wp2_with (first | (at_builtin; refine wpList_append_own_at _ rfl _ _ 22 rfl C 3 i0 (.int .i64 0) 1 8 Tryd.underlying22 hi hz0 hz1 hz2 rfl (by decide) _ _ _ rfl (rz3.alloc _) ⟨wZ.heap.size, 0, none⟩ 1 1 [.int .i64 ((gl : Int) + 1)] rfl rfl ?t1 ?t2 ?t3 ?t4 ?t5 ?_))
            try case t1 =>
              intro j u hj
              match j, hj with
              | 0, hj => simp at hj; subst hj; simp [Addr.add]
            try case t2 => first | rfl | (intro u hu; simp at hu; subst hu; rfl)
            try case t3 => unfold maxLen; omega
            try case t4 => omega
            try case t5 => have := bwZ.size; have := HC.out; simp; omega
            intro v3 wB ro3 gr3 _ nb3
            have bwB : Below C w2 wB := (bwZ.alloc (by have := bwZ.size; have := HC.out; omega) _).grown gr3 (by have := bwZ.size; have := HC.out; simp only [World.size_alloc]; omega) (fun g hg => (rz3.lt g hg).1)
            have rb1 := (rz1.alloc (Obj.cells #[.int .i64 ((gl : Int) + 1)] 3)).kept gr3 q2.ne
            have rb2 := (R0.out.alloc (Obj.cells #[.int .i64 ((gl : Int) + 1)] 3)).kept gr3 z3.ne
            have q3 := Ap.next (u' := v3) q2.symm (by first | exact nb3 | (rw [World.size_alloc] at nb3; exact nb3)) (fun k hk => by have := (rz1.lt k hk).2; omega)
            have q4 := Ap.next (u' := v3) z3.symm (by first | exact nb3 | (rw [World.size_alloc] at nb3; exact nb3)) (fun k hk => by have := (R0.out.lt k hk).2; omega)
            have R3 : Hid (wB.ownsRow C 3 1 v3 (j + 1) ((Mny.atn (bbOf z) xs (j + 1)).map (Value.int .i64))) := by
              show World.ownsRow _ _ _ _ _ _ _; rw [AS.out, List.map_append]; exact ro3
            clear ro3 gr3 nb3
            go_wp2_with (first | (at_builtin; refine wpList_append_own_at _ rfl _ _ 22 rfl C 3 i0 (.int .i64 0) 1 8 Tryd.underlying22 hi hz0 hz1 hz2 rfl (by decide) _ _ _ rfl (rb2.alloc _) ⟨wB.heap.size, 0, none⟩ 1 1 [.int .i64 x] rfl rfl ?u1 ?u2 ?u3 ?u4 ?u5 ?_))
            try case u1 =>
              intro j u hj
              match j, hj with
              | 0, hj => simp at hj; subst hj; simp [Addr.add]
            try case u2 => first | rfl | (intro u hu; simp at hu; subst hu; rfl)
            try case u3 => unfold maxLen; omega
            try case u4 => omega
            try case u5 => have := bwB.size; have := HC.out; simp; omega
            intro v2 wC ro2 gr2 _ nb2
            have bwC : Below C w2 wC := (bwB.alloc (by have := bwB.size; have := HC.out; omega) _).grown gr2 (by have := bwB.size; have := HC.out; simp only [World.size_alloc]; omega) (fun g hg => (rb2.lt g hg).1)
            have rc1 := (rb1.alloc (Obj.cells #[.int .i64 x] 3)).kept gr2 z1'.symm.ne
            have rc3 := (R3.out.alloc (Obj.cells #[.int .i64 x] 3)).kept gr2 q4.ne
            have q5 := Ap.next (u' := v2) z1' (by first | exact nb2 | (rw [World.size_alloc] at nb2; exact nb2)) (fun k hk => by have := (rb1.lt k hk).2; omega)
            have q6 := Ap.next (u' := v2) q4.symm (by first | exact nb2 | (rw [World.size_alloc] at nb2; exact nb2)) (fun k hk => by have := (R3.out.lt k hk).2; omega)
            have R2 : Hid (wC.ownsRow C 3 1 v2 (gl + 2) ((Mny.gpn (bbOf z) xs (j + 1)).map (Value.int .i64))) := by
              show World.ownsRow _ _ _ _ _ _ _; rw [GS.out, List.map_append, List.map_append, List.append_assoc]; exact ro2
            have lg : Hid (gl + 2 = (Mny.gpn (bbOf z) xs (j + 1)).length) := by show _ = _; rw [GS.out, List.length_append, List.length_append, ← HG.out]; rfl
            clear ro2 gr2 nb2
            go_wp2
            go_roundw
            case rel => exact ⟨j + 1, by omega, by go_num, rc1, ⟨gl + 2, lg.out, R2.out⟩, rc3, q5.symm, q3.symm, q6, bwC⟩
            case measure => simp [intOf]; omega
        · obtain rfl : j = M := by omega
          have e1 : Mny.mlk (1 + f) xs j = xs.map fun x => (1 + f) * x := by unfold Mny.mlk; rw [List.take_of_length_le (by have := HM.out; omega)]
          have lx := HM.out
          have l1 : (Mny.mlk (1 + f) xs j).length = j := by rw [e1, List.length_map, lx]
          have l3 : (Mny.atn (bbOf z) xs j).length = j := Mny.atn_len _ _ _
          have gb := Mny.gpn_len (bbOf z) xs j
          rw [← hgl] at gb
          obtain ⟨gb1, gb2⟩ := gb
          obtain ⟨am, cm, hv1, sm1, _⟩ := own_sl (v := u12) (zs := Mny.mlk (1 + f) xs j) (by rw [l1]; exact ho1)
          obtain ⟨ag, cg, hv2, sm2, _⟩ := own_sl (v := u13) (zs := Mny.gpn (bbOf z) xs j) (by rw [← hgl]; exact ho2)
          obtain ⟨at', ct, hv3, sm3, _⟩ := own_sl (v := u14) (zs := Mny.atn (bbOf z) xs j) (by rw [l3]; exact ho3)
          rw [l1] at hv1
          rw [← hgl] at hv2
          rw [l3] at hv3
          subst hv1 hv2 hv3
          have slx : Sl wr (.slice (some ⟨bx, ox, none⟩) j cx) xs := ⟨_, cx, by rw [← lx], Or.inr ⟨bx, ox, rfl, fun i hi => by
            have h0 := XC.out i (by omega)
            exact (hbl.cell (p := ⟨bx, ox + i, none⟩) (by have := World.block_lt_of_cell? _ _ h0; have := HC.out; show bx < C; simp at *; omega)).trans h0⟩⟩
          have W0 := Mny.wt_of MB.out
          have A := Lib.hid (fun v w' h => split_s v xs c j w' h lx (by omega) W0 X1.out c1 c2 _ rfl)
          have B' := Lib.hid (fun v w' h => split_s v (Mny.mlk (1 + f) xs j) c j w' h l1.symm (by omega) (by rw [e1]; exact Mny.mul_wt (by omega) (by omega) MB.out) (by rw [e1]; exact Mny.mul_sm (by omega) X1.out) c1 c2 (Mny.split c xs) (by rw [e1]; exact Mny.split_mul c _ (by omega) xs))
          have D := Lib.hid (fun v w' h => split_s v (Mny.gpn (bbOf z) xs j) c gl w' h hgl (by omega) (Mny.gpn_wt _ _ W0 j (by omega)) (by rw [Mny.gpn_sm _ _ j (by omega), List.take_of_length_le (by omega)]; exact X1.out) c1 c2 _ rfl)
          have lo : Hid ((Mny.split c xs).length = j) := by show _ = _; rw [Mny.split_len, lx]
          have lg : Hid ((Mny.split c (Mny.gpn (bbOf z) xs j)).length = gl) := by show _ = _; rw [Mny.split_len, hgl]
          have SS := Lib.hid (Mny.split_sum c xs W0 X1.out)
          have SB := Lib.hid (Mny.split_bd (c := c) W0 X1.out c1 c2)
          have GP : Hid (∀ i, i < j → (Mny.split c (Mny.gpn (bbOf z) xs j)).getD ((Mny.atn (bbOf z) xs j).getD i 0).toNat 0 = (Mny.split c xs).getD i 0 ∧ 0 ≤ (Mny.atn (bbOf z) xs j).getD i 0 ∧ (Mny.atn (bbOf z) xs j).getD i 0 < gl) := fun i hi => by
            have q := Mny.split_gap c (bbOf z) xs i (by omega)
            rw [← lx] at q
            have bd := Mny.at_bd (bbOf z) xs j i hi
            rw [← hgl] at bd
            exact ⟨q, bd.1, bd.2⟩
          have G0 : Hid (∀ i, (Mny.gpn (bbOf z) xs j).getD i 0 = 0 → (Mny.split c (Mny.gpn (bbOf z) xs j)).getD i 0 = 0) := fun i h => Mny.split_at0 c _ i h
          have SW : Hid (St w wr) := HS2.out.step (by rw [← HC.out]; exact hbl)
          obtain ⟨out, hout⟩ : ∃ o, o = Mny.split c xs := ⟨_, rfl⟩
          obtain ⟨og, hog⟩ : ∃ o, o = Mny.split c (Mny.gpn (bbOf z) xs j) := ⟨_, rfl⟩
          obtain ⟨ats, hats⟩ : ∃ o, o = Mny.atn (bbOf z) xs j := ⟨_, rfl⟩
          obtain ⟨gs, hgs⟩ : ∃ o, o = Mny.gpn (bbOf z) xs j := ⟨_, rfl⟩
          rw [← hog] at D lg GP G0
          rw [← hout] at A B' lo SS SB GP
          rw [← hats] at sm3 GP l3
          rw [← hgs] at sm2 G0 D hgl
          have HGL := Lib.hid hgl
          have L3 := Lib.hid l3
          clear hout hog hats hgs ho1 ho2 ho3 p1 p2 p3 lx l1 l3 e1 W0 hgl hbl
          obtain ⟨wo, hwo⟩ : ∃ x, x = wr := ⟨_, rfl⟩
          rw [← hwo] at slx sm1 sm2 sm3 SW ⊢
          clear hwo
          have LOO := lo.out
          go_wp2_with (first | (go_at_call 15; (with_reducible refine (A.out _ _ slx).mono ?_); rintro e wA ⟨g1, rfl, sa, ba⟩; have sm1a := sm1.below ba; have sm2a := sm2.below ba; have sm3a := sm3.below ba)  | (go_at_call 15; (with_reducible refine (B'.out _ _ sm1a).mono ?_); rintro e wB ⟨g2, rfl, sb, bb⟩; have sm2b := sm2a.below bb; have sm3b := sm3a.below bb; have sab := sa.below bb)  | (go_at_call 15; (with_reducible refine (D.out _ _ sm2b).mono ?_); rintro e wD ⟨g3, rfl, sd, bd⟩; have sm2d := sm2b.below bd; have sm3d := sm3b.below bd; have sad := sab.below bd; have sbd := sb.below bd)  | (go_at_call 19; refine (same_yes _ _ _ _ j _ _ LOO.symm sad sbd (by omega)).mono ?_; rintro e wE ⟨rfl, qe⟩))
          have SE : Hid (St w wE) := (((SW.out.step ba).step bb).step bd).step qe.bl
          have WE := qe
          have AC := Lib.hid (fun wr (q : Qt wE wr) i hi => q.cell (qe.cell (sl_at sad M1 i hi)))
          have DC := Lib.hid (fun wr (q : Qt wE wr) i hi => q.cell (qe.cell (sl_at sd (by omega) i hi)))
          obtain ⟨bt, ot, rfl, htc⟩ := sl_cells sm3d M1
          obtain ⟨bg, og', rfl, hgc⟩ := sl_cells sm2d (by omega)
          have TC := Lib.hid (fun wr (q : Qt wE wr) i hi => q.cell (qe.cell (htc i hi)))
          have GC := Lib.hid (fun wr (q : Qt wE wr) i hi => q.cell (qe.cell (hgc i hi)))
          clear htc hgc sad sd sm3d sm2d sbd sab sb sa sm1a sm2a sm3a sm2b sm3b ba bb bd WE qe sm1 sm2 sm3 slx LOO
          go_loopw [25, 133] (fun al i wr => ∃ k : Nat, k ≤ j ∧ i = .int .i64 k ∧ al = .int .i64 (Mny.sm (out.take k)) ∧ Qt wE wr) (fun _ i _ => j + 1 - (intOf i).toNat)
          case atStart => exact ⟨0, by omega, rfl, rfl, Qt.refl _⟩
          case round =>
            obtain ⟨k, hk, rfl, rfl, hq⟩ := hrel
            have HQ := Lib.hid hq
            have bd := Mny.sm_bd (out.take k) (-1000000000000000) 1000000000000001 (fun y hy => SB.out y (List.mem_of_mem_take hy))
            have bl : (out.take k).length ≤ 4096 := by rw [List.length_take]; omega
            have bd2 : -4096000000000000000 ≤ Mny.sm (out.take k) ∧ Mny.sm (out.take k) ≤ 4097000000000000000 := by omega
            by_cases hlk : k < j
            · have ct := TC.out wr hq k hlk
              have co := AC.out wr hq k hlk
              obtain ⟨g1', g2', g3'⟩ := GP.out k hlk
              obtain ⟨p, hp⟩ : ∃ p : Nat, (p : Int) = ats.getD k 0 := ⟨(ats.getD k 0).toNat, by omega⟩
              rw [← hp] at ct g1' g2' g3'
              have pg : p < gl := by omega
              have cd := DC.out wr hq p pg
              rw [Int.toNat_natCast] at g1'
              rw [g1'] at cd
              have ob := SB.out (out.getD k 0) (Mny.getD_mem (by have := lo.out; omega))
              have SK := Lib.hid (Mny.sm_take out k (by have := lo.out; omega))
              obtain ⟨o, ho⟩ : ∃ o, o = out.getD k 0 := ⟨_, rfl⟩
              obtain ⟨S, hS⟩ : ∃ S, S = Mny.sm (out.take k) := ⟨_, rfl⟩
              rw [← ho] at co cd ob SK
              rw [← hS] at bd2 SK ⊢
              obtain ⟨ob1, ob2⟩ := ob
              obtain ⟨s1, s2⟩ := bd2
              clear ho hS bd bl hp g1' g2' g3' hq
              go_wp2
              go_region
              go_wp2
              go_roundw
              case rel => exact ⟨k + 1, by omega, by go_num, by rw [SK.out], HQ.out.trans ⟨1, rfl⟩⟩
              case measure => simp [intOf]; omega
            · obtain rfl : k = j := by omega
              have eo : out.take k = out := List.take_of_length_le (by have := lo.out; omega)
              rw [eo, SS.out] at *
              obtain ⟨wo, hwo⟩ : ∃ x, x = wr := ⟨_, rfl⟩
              rw [← hwo] at HQ ⊢
              clear hwo bd bl bd2 eo hq
              go_wp2
              go_loopw [157] (fun i wr => ∃ q : Nat, q ≤ gl ∧ i = .int .i64 q ∧ Qt wE wr) (fun i _ => gl + 1 - (intOf i).toNat)
              case atStart => exact ⟨0, by omega, rfl, HQ.out⟩
              case round =>
                obtain ⟨q, hq1, rfl, hq⟩ := hrel
                have HQ2 := Lib.hid hq
                by_cases hlq : q < gl
                · have cg' := GC.out wr hq q hlq
                  have cd := DC.out wr hq q hlq
                  have GG := Lib.hid (G0.out q)
                  obtain ⟨x, hx⟩ : ∃ x, x = gs.getD q 0 := ⟨_, rfl⟩
                  obtain ⟨o, ho⟩ : ∃ o, o = og.getD q 0 := ⟨_, rfl⟩
                  rw [← hx] at cg' GG
                  rw [← ho] at cd GG
                  clear hx ho hq
                  by_cases x0 : x = 0
                  · have o0 := GG.out x0
                    subst x0 o0
                    go_wp2
                    go_roundw
                    case rel => exact ⟨q + 1, by omega, by go_num, HQ2.out⟩
                    case measure => simp [intOf]; omega
                  · go_wp2
                    go_roundw
                    case rel => exact ⟨q + 1, by omega, by go_num, HQ2.out⟩
                    case measure => simp [intOf]; omega
                · go_wp2
                  go_ret
                  exact ⟨rfl, (HQ2.out.st SE.out).bl⟩
theorem walk_moneyScales (w : World) (G : Gl w) (n : Int) (_n1 : -9223372036854775808 ≤ n) (_n2 : n ≤ 9223372036854775807) (a : Option Addr) (len cap : Nat) (zs : List Int) (h : IsRow .u32 w a len cap zs) (m : Int) (_m1 : -9223372036854775808 ≤ m) (_m2 : m ≤ 9223372036854775807) (z : Int) (z1 : 0 ≤ z) (z2 : z ≤ 65535) :
    Calls Tryd.prog 7 #[.int .i64 n, .slice a len cap, .int .i64 m, .int .u16 z] w fun e w' => e = .returned (.bool true) ∧ Below w.heap.size w w' :=
  scales_any w G n _ _ (sw_of h) m z z1 z2
end Go.Proofs.YthdmgnlemmpjkaaDoor
