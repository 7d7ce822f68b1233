/- Contract of 'list': holidays for any numbers. -/
import Derived.Test.YtcnnfgigpjbcpaaDoorS0
namespace Go.Proofs.YtcnnfgigpjbcpaaDoor
open Go.RowKit

/-- Holidays made of numbers. -/
def lsn (us : List Int) : Nat → List Int
  | 0 => []
  | k + 1 => lsn us k ++ [(lsn us k).getLastD (-1) + (1 + us.getD k 0 % 701)]
theorem lsn_len (us : List Int) : ∀ k, (lsn us k).length = k
  | 0 => rfl
  | k + 1 => by show (lsn us k ++ [_]).length = _; rw [List.length_append, lsn_len us k]; rfl
theorem lsn_last (us : List Int) (k : Nat) : (lsn us (k + 1)).getLastD (-1) = (lsn us k).getLastD (-1) + (1 + us.getD k 0 % 701) := by
  show (lsn us k ++ [_]).getLastD (-1) = _
  simp [List.getLastD_eq_getLast?]
theorem lsn_bd (us : List Int) : ∀ k, -1 ≤ (lsn us k).getLastD (-1) ∧ (lsn us k).getLastD (-1) ≤ 701 * k - 1
  | 0 => by show -1 ≤ (-1 : Int) ∧ (-1 : Int) ≤ 701 * ((0 : Nat) : Int) - 1; omega
  | k + 1 => by have := lsn_bd us k; rw [lsn_last]; omega
theorem lsn_inc (us : List Int) : ∀ k, k ≤ 1000 → Hol.inc (-1) (lsn us k) = true
  | 0, _ => rfl
  | k + 1, h => by
    show Hol.inc (-1) (lsn us k ++ [_]) = true
    rw [Hol.inc_snoc]
    have := lsn_bd us k
    exact ⟨lsn_inc us k (by omega), by omega, by omega⟩
theorem lsn_right (us : List Int) (k : Nat) (h : k ≤ 1000) : Hol.right (lsn us k) = true := by
  rw [Hol.right_iff, lsn_len]; exact ⟨h, lsn_inc us k h⟩
/-- A slice value of uint16s. -/
def Su (w : World) (v : Value) (us : List Int) : Prop := ∃ (a : Option Addr) (c : Nat), v = .slice a us.length c ∧ us.length ≤ 9223372036854775807 ∧ (∀ x ∈ us, 0 ≤ x ∧ x ≤ 65535) ∧ (us = [] ∨ ∃ b off, a = some ⟨b, off, none⟩ ∧ ∀ j, j < us.length → w.cell? ⟨b, off + j, none⟩ = some (.int .u16 (us.getD j 0)))
theorem Su.below {w w' : World} {v : Value} {us : List Int} (h : Su w v us) (hb : Below w.heap.size w w') : Su w' v us := by
  obtain ⟨a, c, rfl, hm, hx, h⟩ := h
  refine ⟨a, c, rfl, hm, hx, ?_⟩
  rcases h with h | ⟨b, off, rfl, h⟩
  · exact Or.inl h
  · exact Or.inr ⟨b, off, rfl, fun j hj => (hb.cell (World.block_lt_of_cell? _ _ (h j hj))).trans (h j hj)⟩
theorem own_sl {w : World} {B : Nat} {v : Value} {zs : List Int} (h : w.ownsRow B 3 1 v zs.length (zs.map (Value.int .i64))) : ∃ a c, v = .slice a zs.length c ∧ Sl w v zs ∧ zs.length ≤ c := by
  rcases h.2 with ⟨rfl, hn⟩ | ⟨g, cap, cur, rfl, _, _, hcap, _⟩
  · have : zs = [] := List.eq_nil_of_length_eq_zero hn
    subst this
    exact ⟨none, 0, rfl, ⟨none, 0, rfl, Or.inl rfl⟩, Nat.le_refl _⟩
  · refine ⟨_, cap, rfl, ⟨_, cap, rfl, Or.inr ⟨g, 0, rfl, fun j hj => ?_⟩⟩, hcap⟩
    have := h.cellAt j (by omega)
    rw [Nat.zero_add, this, List.getElem?_map, List.getElem?_eq_getElem hj, List.getD_eq_getElem?_getD, List.getElem?_eq_getElem hj]
    rfl
theorem info_int : (Tryd.prog.info? 3).map (fun i => (i.zero, i.size, i.bytes)) = some (some (.int .i64 0), 1, 8) := by kernel_rfl
theorem own_next {us : List Int} {k B : Nat} {w : World} {v : Value} {y : Int} (hy : y = (lsn us k).getLastD (-1) + (1 + us.getD k 0 % 701)) (h : w.ownsRow B 3 1 v (k + 1) ((lsn us k).map (Value.int .i64) ++ [.int .i64 y])) : w.ownsRow B 3 1 v (k + 1) ((lsn us (k + 1)).map (Value.int .i64)) := by
  have e : (lsn us (k + 1)).map (Value.int .i64) = (lsn us k).map (Value.int .i64) ++ [.int .i64 y] := by
    show (lsn us k ++ [_]).map (Value.int .i64) = _
    rw [List.map_append, ← hy]; rfl
  rw [e]; exact h
set_option maxRecDepth 100000 in
set_option maxHeartbeats 1600000 in
theorem list_any (v : Value) (us : List Int) (w0 w : World) (S : St w0 w) (h : Su w v us) :
    Calls Tryd.prog 32 #[v] w fun e w' => ∃ a c K, K ≤ 1000 ∧ e = .returned (.slice a K c) ∧ Sl w' (.slice a K c) (lsn us K) ∧ St w0 w' ∧ K ≤ c := by
  obtain ⟨a, c, rfl, hm, hx, h⟩ := h
  obtain ⟨n, hn⟩ : ∃ n, n = us.length := ⟨_, rfl⟩
  rw [← hn] at h hm ⊢
  have HN := Lib.hid hn
  have H := Lib.hid h
  have HX := Lib.hid hx
  obtain ⟨i0, hi, hz0, hz1, hz2⟩ := info_parts info_int
  obtain ⟨B, hB⟩ : ∃ B, B = w.heap.size := ⟨_, rfl⟩
  have HB := Lib.hid hB
  have Bl : Below B w w := by rw [hB]; exact Below.refl _ _
  clear hn h hx hB
  go_enter Tryd.func32, Tryd.ntmps32
  go_wp2
  go_loopw [3, 4, 5] (fun v l i wr => ∃ k : Nat, k ≤ n ∧ k ≤ 1000 ∧ i = .int .i64 k ∧ l = .int .i64 ((lsn us k).getLastD (-1)) ∧ wr.ownsRow B 3 1 v k ((lsn us k).map (Value.int .i64)) ∧ Below B w wr) (fun _ _ i _ => 1001 - (intOf i).toNat)
  case atStart => exact ⟨0, Nat.zero_le _, Nat.zero_le _, rfl, rfl, World.ownsRow_nil _ _ _ _, Bl⟩
  case round =>
    obtain ⟨k, hk, hk1, rfl, rfl, hown, hbl⟩ := hrel
    have bd := lsn_bd us k
    obtain ⟨p, hp⟩ : ∃ p, p = (lsn us k).getLastD (-1) := ⟨_, rfl⟩
    rw [← hp] at bd ⊢
    have HP := Lib.hid hp
    clear hp
    by_cases hlt : k < n ∧ k < 1000
    · obtain ⟨hlt, hlt2⟩ := hlt
      rcases H.out with h0 | ⟨b, off, rfl, hc⟩
      · exfalso; have := HN.out; rw [h0] at this; simp at this; omega
      · have hck0 := hc k (by have := HN.out; omega)
        have hxk := HX.out (us.getD k 0) (by rw [List.getD_eq_getElem?_getD, List.getElem?_eq_getElem (by have := HN.out; omega)]; exact List.getElem_mem _)
        obtain ⟨x, hx⟩ : ∃ x, x = us.getD k 0 := ⟨_, rfl⟩
        rw [← hx] at hck0 hxk
        have HXK := Lib.hid hx
        have hck := (hbl.cell (p := ⟨b, off + k, none⟩) (by have := World.block_lt_of_cell? _ _ hck0; have := HB.out; show b < B; simp at *; omega)).trans hck0
        clear hx hc hck0
        obtain ⟨hx1, hx2⟩ := hxk
        go_wp2_with (first | (at_builtin; refine wpList_append_own _ rfl _ _ 34 rfl B 3 i0 (.int .i64 0) 1 8 Tryd.underlying34 hi hz0 hz1 hz2 rfl (by decide) _ _ _ rfl (hown.alloc _) ⟨wr.heap.size, 0, none⟩ 1 1 [.int .i64 (p + (1 + x % 701))] rfl rfl ?c1 ?c2 ?c3 ?c4 ?c5 ?_))
        case c1 =>
          intro j u hj
          match j, hj with
          | 0, hj => simp at hj; subst hj; simp [Addr.add]
        case c2 => intro u hu; simp at hu; subst hu; rfl
        case c3 => unfold maxLen; omega
        case c4 => omega
        case c5 => have := hbl.size; have := HB.out; simp; omega
        · intro v' w1 hown' hgrow _
          have e := lsn_last us k
          rw [← HXK.out, ← HP.out] at e
          have hb1 : Below B w w1 := (hbl.alloc (by have := hbl.size; have := HB.out; omega) _).grown hgrow (by have := hbl.size; have := HB.out; simp only [World.size_alloc]; omega) (fun g hg => (hown.lt g hg).1)
          have R := own_next (us := us) (k := k) (y := p + (1 + x % 701)) (by rw [← HXK.out, ← HP.out]) hown'
          have E := Lib.hid e
          clear hown' hgrow hown hck e
          go_wp2
          go_roundw
          case rel => exact ⟨k + 1, by omega, by omega, by go_num, by rw [E.out], R, hb1⟩
          case measure => simp [intOf]; omega
    · have hown2 : wr.ownsRow B 3 1 u3 (lsn us k).length ((lsn us k).map (Value.int .i64)) := by rw [lsn_len]; exact hown
      obtain ⟨a', c', hv, hS, hcap⟩ := own_sl hown2
      rw [lsn_len] at hv hcap
      subst hv
      have SS := Lib.hid hS
      have HL := Lib.hid hown
      have ST := Lib.hid (S.step (by rw [← HB.out]; exact hbl))
      clear hown hown2 hS
      by_cases h1 : k < n
      · go_wp2
        go_ret
        exact ⟨a', c', k, hk1, rfl, SS.out, ST.out, hcap⟩
      · go_wp2
        go_ret
        exact ⟨a', c', k, hk1, rfl, SS.out, ST.out, hcap⟩
end Go.Proofs.YtcnnfgigpjbcpaaDoor
