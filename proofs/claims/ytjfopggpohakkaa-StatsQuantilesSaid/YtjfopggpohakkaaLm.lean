/- Slices that read as limbs; the kit's functions on them. -/
import Derived.Test.YtjfopggpohakkaaSl
import Derived.Test.YtjfopggpohakkaaNs
namespace Go.Proofs.Ytjfopggpohakkaa
open Go.RowKit

/-- A slice value that reads as limbs. -/
def Lm (w : World) (v : Value) (l : List Nat) : Prop := ∃ (a : Option Addr) (c : Nat), v = .slice a l.length c ∧ Nt.Fit l ∧ (a = none → c = 0) ∧ l.length ≤ c ∧ (l = [] ∨ ∃ b off, a = some ⟨b, off, none⟩ ∧ ∀ j, j < l.length → w.cell? ⟨b, off + j, none⟩ = some (.int .u32 (l.getD j 0 : Nat)))
theorem Lm.below {w w' : World} {v : Value} {l : List Nat} (h : Lm w v l) (hb : Below w.heap.size w w') : Lm w' v l := by
  obtain ⟨a, c, rfl, hf, ha, hc, h⟩ := h
  refine ⟨a, c, rfl, hf, ha, hc, ?_⟩
  rcases h with h | ⟨b, off, rfl, h⟩
  · exact Or.inl h
  · exact Or.inr ⟨b, off, rfl, fun j hj => (hb.cell (World.block_lt_of_cell? _ _ (h j hj))).trans (h j hj)⟩
theorem Lm.nil (w : World) : Lm w (.slice none 0 0) [] := ⟨none, 0, rfl, Nt.fit_nil, fun _ => rfl, Nat.le_refl _, Or.inl rfl⟩
theorem Lm.cap {w : World} {a : Option Addr} {n c : Nat} {l : List Nat} (h : Lm w (.slice a n c) l) : n ≤ c ∧ n = l.length ∧ (a = none → n = 0) := by
  obtain ⟨a', c', e, _, ha, hc, _⟩ := h
  obtain ⟨rfl, hn, rfl⟩ := Value.slice.inj e
  exact ⟨by omega, hn, fun x => by have := ha x; omega⟩
theorem Lm.fit {w : World} {v : Value} {l : List Nat} (h : Lm w v l) : Nt.Fit l := by obtain ⟨_, _, _, h, _⟩ := h; exact h
theorem Lm.take {w : World} {a : Option Addr} {n c : Nat} {l : List Nat} (h : Lm w (.slice a n c) l) (k : Nat) (hk : k ≤ n) : Lm w (.slice a k c) (l.take k) := by
  obtain ⟨a', c2, e, hf, ha, hc, h⟩ := h
  obtain ⟨rfl, rfl, rfl⟩ := Value.slice.inj e
  have el : (l.take k).length = k := by rw [List.length_take]; omega
  refine ⟨a, c, by rw [el], fun x hx => hf x (List.mem_of_mem_take hx), ha, by rw [el]; omega, ?_⟩
  rcases h with h | ⟨b, off, rfl, h⟩
  · left; rw [h, List.take_nil]
  · refine Or.inr ⟨b, off, rfl, fun j hj => ?_⟩
    rw [el] at hj
    rw [h j (by omega), List.getD_eq_getElem?_getD, List.getD_eq_getElem?_getD, List.getElem?_take_of_lt hj]
/-- The first limb that differs. -/
theorem same_at {l m : List Nat} (hl : l.length = m.length) (h : ∀ j, j < l.length → l.getD j 0 = m.getD j 0) : l = m := by
  refine List.ext_getElem hl fun j h1 h2 => ?_
  have := h j h1
  rw [List.getD_eq_getElem?_getD, List.getD_eq_getElem?_getD, List.getElem?_eq_getElem h1, List.getElem?_eq_getElem h2] at this
  exact this
set_option maxHeartbeats 1600000 in
theorem same_any (v u : Value) (l m : List Nat) (w : World) (h : Lm w v l) (h' : Lm w u m) (hl : l.length ≤ 1000000) :
    Calls Try.prog 63 #[v, u] w fun e w' => e = .returned (.bool (decide (l = m))) ∧ Qt w w' := by
  obtain ⟨a, c, rfl, _, _, _, h⟩ := h
  obtain ⟨a', c', rfl, _, _, _, h'⟩ := h'
  by_cases hlen : l.length = m.length
  · rw [← hlen] at h' ⊢
    obtain ⟨n, hn⟩ : ∃ n, n = l.length := ⟨_, rfl⟩
    rw [← hn] at hl h h' ⊢
    have HN := Lib.hid hn
    have HM := Lib.hid hlen
    have H := Lib.hid h
    have H' := Lib.hid h'
    clear h h' hn hlen
    go_enter Try.func63, Try.ntmps63
    go_wp2
    go_loopw [5] (fun i wr => ∃ k : Nat, k ≤ n ∧ i = .int .i64 k ∧ (∀ j, j < k → l.getD j 0 = m.getD j 0) ∧ Qt w wr) (fun i _ => n + 1 - (intOf i).toNat)
    case atStart => exact ⟨0, Nat.zero_le _, rfl, fun j hj => absurd hj (Nat.not_lt_zero j), Qt.refl w⟩
    case round =>
      obtain ⟨k, hk, rfl, he, hq⟩ := hrel
      have HQ := Lib.hid hq
      have HE := Lib.hid he
      clear he
      by_cases hlt : k < n
      · rcases H.out with h0 | ⟨b, off, rfl, hc⟩
        · exfalso; have := HN.out; rw [h0] at this; simp at this; omega
        rcases H'.out with h0 | ⟨b', off', rfl, hc'⟩
        · exfalso; have e1 := HM.out; have e2 := HN.out; rw [h0, List.length_nil] at e1; omega
        have hck := hq.cell (hc k hlt)
        have hck' := hq.cell (hc' k hlt)
        obtain ⟨x, hx⟩ : ∃ x, x = l.getD k 0 := ⟨_, rfl⟩
        obtain ⟨y, hy⟩ : ∃ y, y = m.getD k 0 := ⟨_, rfl⟩
        rw [← hx] at hck
        rw [← hy] at hck'
        have HX := Lib.hid hx
        have HY := Lib.hid hy
        clear hx hy hc hc' hq
        by_cases hxy : x = y
        · subst hxy
          go_wp2
          go_region
          go_wp2
          go_roundw
          case rel => exact ⟨k + 1, by omega, by go_num, (fun j hj => by
            by_cases hjk : j = k
            · rw [hjk, ← HX.out, ← HY.out]
            · exact HE.out j (by omega)), HQ.out.trans ⟨1, rfl⟩⟩
          case measure => simp [intOf]; omega
        · have NE : Hid (decide (l = m) = false) := by
            show _ = _
            refine decide_eq_false fun e => hxy ?_
            rw [HX.out, HY.out, e]
          go_wp2
          go_region
          go_wp2
          go_ret
          exact ⟨ret_bool NE.out.symm, HQ.out.trans ⟨1, rfl⟩⟩
      · have EQ : Hid (decide (l = m) = true) := by
          show _ = _
          exact decide_eq_true (same_at HM.out (fun j hj => HE.out j (by have := HN.out; omega)))
        go_wp2
        go_ret
        exact ⟨ret_bool EQ.out.symm, HQ.out⟩
  · have NE : Hid (decide (l = m) = false) := by
      show _ = _
      exact decide_eq_false fun e => hlen (by rw [e])
    go_enter Try.func63, Try.ntmps63
    go_wp2
    go_ret
    exact ⟨ret_bool NE.out.symm, Qt.refl _⟩
/-- Limbs as cells. -/
def cv (l : List Nat) : List Value := l.map fun x => Value.int .u32 (x : Nat)
theorem cv_len (l : List Nat) : (cv l).length = l.length := List.length_map _
theorem cv_one (l : List Nat) : ∀ u ∈ cv l, u.oneCell' = true := by
  intro u hu; obtain ⟨x, _, rfl⟩ := List.mem_map.1 hu; rfl
theorem cv_app (l m : List Nat) : cv (l ++ m) = cv l ++ cv m := List.map_append
theorem info_limb : (Try.prog.info? 55).map (fun i => (i.zero, i.size, i.bytes)) = some (some (.int .u32 0), 1, 4) := by kernel_rfl
theorem cv_at {l : List Nat} {j : Nat} {u : Value} (h : (cv l)[j]? = some u) : j < l.length ∧ u = .int .u32 (l.getD j 0 : Nat) := by
  unfold cv at h
  rw [List.getElem?_map, Option.map_eq_some_iff] at h
  obtain ⟨x, hx, rfl⟩ := h
  exact ⟨(List.getElem?_eq_some_iff.1 hx).1, by rw [List.getD_eq_getElem?_getD, hx]; rfl⟩
theorem cv_cells {w : World} {a : Option Addr} {l : List Nat} (h : l = [] ∨ ∃ b off, a = some ⟨b, off, none⟩ ∧ ∀ j, j < l.length → w.cell? ⟨b, off + j, none⟩ = some (.int .u32 (l.getD j 0 : Nat))) : ∀ ad, a = some ad → ∀ j u, (cv l)[j]? = some u → w.cell? (ad.add j) = some u := by
  intro ad had j u hj
  obtain ⟨hlt, rfl⟩ := cv_at hj
  rcases h with rfl | ⟨b, off, rfl, h⟩
  · simp at hlt
  · obtain rfl : (⟨b, off, none⟩ : Addr) = ad := Option.some.inj had
    rw [Go.WideShapes.add_plain, h j hlt]
theorem own_lm {w : World} {B n : Nat} {v : Value} {l : List Nat} (hn : n = l.length) (hf : Nt.Fit l) (h : w.ownsRow B 55 1 v n (cv l)) : ∃ a c, v = .slice a n c ∧ Lm w (.slice a n c) l := by
  rcases h.2 with ⟨rfl, h0⟩ | ⟨g, cap, cur, rfl, _, _, hcap, _⟩
  · subst h0
    have : l = [] := List.eq_nil_of_length_eq_zero hn.symm
    subst this
    exact ⟨none, 0, rfl, Lm.nil w⟩
  · refine ⟨_, cap, rfl, _, cap, by rw [hn], hf, fun e => (by cases e), by omega, Or.inr ⟨g, 0, rfl, fun j hj => ?_⟩⟩
    have := h.cellAt j (by omega)
    rw [Nat.zero_add, this]
    unfold cv
    rw [List.getElem?_map, List.getElem?_eq_getElem hj, List.getD_eq_getElem?_getD, List.getElem?_eq_getElem hj]
    rfl
end Go.Proofs.Ytjfopggpohakkaa
