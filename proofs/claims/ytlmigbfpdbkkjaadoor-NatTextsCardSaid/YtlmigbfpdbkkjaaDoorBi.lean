/- The reference's divmod. -/
import Derived.Test.YtlmigbfpdbkkjaaDoorBh
import Derived.Laws.AppendOwnNone
namespace Go.Proofs.YtlmigbfpdbkkjaaDoor
open Go.RowKit

namespace Nt
/-- A bit more of a dividend. -/
theorem dm_step {H y x R : Nat} (hy : 0 < y) (hx : x < 2) (hR : R = x + 2 * (H % y)) : (y ≤ R → (x + 2 * H) / y = 1 + 2 * (H / y) ∧ (x + 2 * H) % y = R - y) ∧ (¬ y ≤ R → (x + 2 * H) / y = 2 * (H / y) ∧ (x + 2 * H) % y = R) := by
  have e := Nat.div_add_mod H y
  have lt := Nat.mod_lt H hy
  obtain ⟨q, hq⟩ : ∃ q, q = H / y := ⟨_, rfl⟩
  obtain ⟨r, hr⟩ : ∃ r, r = H % y := ⟨_, rfl⟩
  rw [← hq, ← hr] at e
  rw [← hr] at lt hR
  rw [← hq]
  constructor
  · intro h
    rw [Nat.div_mod_unique hy, Nat.mul_add, Nat.mul_one]
    have : y * (2 * q) = 2 * (y * q) := Nat.mul_left_comm y 2 q
    rw [this]
    generalize y * q = z at *
    omega
  · intro h
    rw [Nat.div_mod_unique hy]
    have : y * (2 * q) = 2 * (y * q) := Nat.mul_left_comm y 2 q
    rw [this]
    generalize y * q = z at *
    omega
theorem bits_cons {x : Nat} {l : List Nat} (hx : x < 2) (h : Bits l) : Bits (x :: l) := by
  intro z hz
  rcases List.mem_cons.1 hz with rfl | hz
  · exact hx
  · exact h z hz
theorem bits_put {l : List Nat} (h : Bits l) (j x : Nat) (hx : x < 2) : Bits (l.set j x) := by
  intro z hz
  rcases List.mem_or_eq_of_mem_set hz with hz | rfl
  · exact h z hz
  · exact hx
theorem drop_put (Q : List Nat) (j x : Nat) (hj : j < Q.length) : Pos.val 2 ((Q.set j x).drop j) = x + 2 * Pos.val 2 (Q.drop (j + 1)) := by
  rw [Pos.val_drop, List.getD_eq_getElem?_getD, List.getElem?_set_self hj, List.drop_set_of_lt (by omega)]
  rfl
theorem drop_none (Q : List Nat) (j : Nat) (h : Q.getD j 0 = 0) : Pos.val 2 (Q.drop j) = 2 * Pos.val 2 (Q.drop (j + 1)) := by
  rw [Pos.val_drop, h, Nat.zero_add]
theorem getD_set_ne (Q : List Nat) (j x i : Nat) (h : i ≠ j) : (Q.set j x).getD i 0 = Q.getD i 0 := by
  rw [List.getD_eq_getElem?_getD, List.getElem?_set_ne (by omega), ← List.getD_eq_getElem?_getD]
theorem getD_set_eq (Q : List Nat) (j x : Nat) (h : j < Q.length) : (Q.set j x).getD j 0 = x := by
  rw [List.getD_eq_getElem?_getD, List.getElem?_set_self h]; rfl
end Nt

theorem iv_src {w : World} {a : Option Addr} {n c : Nat} {l : List Nat} (h : Bt w (.slice a n c) l) (o : Obj) : ∀ ad, a = some ad → ∀ j u, (iv l)[j]? = some u → (w.alloc o).cell? (ad.add j) = some u := by
  intro ad had j u hj
  obtain ⟨a', c', e, _, _, _, h⟩ := h
  obtain ⟨rfl, _, rfl⟩ := Value.slice.inj e
  have hlt : j < l.length := by
    have := (List.getElem?_eq_some_iff.1 hj).1
    rw [iv_len] at this; exact this
  rw [iv_at hlt] at hj
  obtain rfl := Option.some.inj hj
  rcases h with rfl | ⟨b, off, rfl, h⟩
  · simp at hlt
  · obtain rfl : (⟨b, off, none⟩ : Addr) = ad := Option.some.inj had
    rw [Go.WideShapes.add_plain]
    exact cell_in _ (h j hlt)
theorem iv_one (l : List Nat) : ∀ u ∈ iv l, u.oneCell' = true := by
  intro u hu; obtain ⟨x, _, rfl⟩ := List.mem_map.1 hu; rfl
theorem one_own (w : World) (u : Value) : (w.alloc (.cells #[u] 3)).ownsRow w.heap.size 3 1 (.slice (some ⟨w.heap.size, 0, none⟩) 1 1) 1 [u] :=
  ⟨rfl, Or.inr ⟨w.heap.size, 1, #[u], rfl, Nat.le_refl _, heap_alloc_new w _, Nat.le_refl _, by unfold maxLen; omega, rfl, rfl⟩⟩
/-- A slice of bits that the call has built, as the reading slice and where it lies. -/
theorem own_new {w : World} {B n : Nat} {v : Value} {l : List Nat} (hb : Nt.Bits l) (hn : n = l.length) (h0 : 0 < n) (h : w.ownsRow B 3 1 v n (iv l)) : ∃ a c, v = .slice a n c ∧ Bt w (.slice a n c) l ∧ Fr B a := by
  rcases h.2 with ⟨_, h'⟩ | ⟨g, cap, cur, rfl, hB, _, hcap, _⟩
  · omega
  · refine ⟨_, cap, rfl, ⟨_, cap, by rw [hn], hb, fun e => (by cases e), by omega, Or.inr ⟨g, 0, rfl, fun j hj => ?_⟩⟩, fun ad e => by obtain rfl := Option.some.inj e; exact hB⟩
    have := h.cellAt j (by omega)
    rw [Nat.zero_add, this, iv_at hj]
/-- 'append([]int{d}, l...)'. -/
theorem wp_cons {ops : Array Oper} {rest : List Oper} {o : Oper} {a : Act} {w : World} {Q : Exit → Act → World → Prop} (hg : o.guard = none) (s x : Operand)
    (hop : o.op = Op.call { callee := Callee.builtin Builtin.append, args := #[s, x], argTypes := #[78, 78] })
    (d : Nat) (hd : d < 2) (hs : a.eval s = .slice (some ⟨w.heap.size, 0, none⟩) 1 1) (ao : Option Addr) (n c : Nat) (l : List Nat) (hx : a.eval x = .slice ao n c) (h : Bt w (.slice ao n c) l) (hl : l.length ≤ 1000000)
    (hK : ∀ a' k' c' w', k' = l.length + 1 → Bt w' (.slice a' k' c') (d :: l) → Fr w.heap.size a' → Below w.heap.size w w' → wpList Tryd.prog ops Q rest (a.put o.dst (.slice a' k' c')) w') :
    wpList Tryd.prog ops Q (o :: rest) a (w.alloc (.cells #[.int .i64 (d : Nat)] 3)) := by
  obtain ⟨i0, hi, hz0, hz1, hz2⟩ := info_parts info_i64
  have hb := Nt.bits_cons hd h.bits
  obtain ⟨_, hn, hnone⟩ := h.cap
  have src := iv_src h (.cells #[.int .i64 (d : Nat)] 3)
  cases ao with
  | none =>
    have n0 := hnone rfl
    obtain ⟨_, _, e, _, hc0, _⟩ := h
    obtain ⟨ea, _, ec⟩ := Value.slice.inj e
    have c0 := hc0 ea.symm
    rw [← ec] at c0
    have l0 : l = [] := List.eq_nil_of_length_eq_zero (by omega)
    subst l0
    subst n0
    subst c0
    refine wpList_append_own_none hg s x 78 hop w.heap.size 3 i0 1 Tryd.underlying78 hi _ 1 [.int .i64 (d : Nat)] hs (one_own w _) hx ?_
    obtain ⟨a', c', e', hB, hF⟩ := own_new (l := [d]) hb rfl Nat.one_pos (one_own w (.int .i64 (d : Nat)))
    obtain ⟨rfl, _, rfl⟩ := Value.slice.inj e'
    exact hK _ _ _ _ rfl hB hF ((Below.refl _ _).alloc (Nat.le_refl _) _)
  | some ad =>
    refine wpList_append_own _ hg s x 78 hop w.heap.size 3 i0 (.int .i64 0) 1 8 Tryd.underlying78 hi hz0 hz1 hz2 rfl (by decide) _ 1 [.int .i64 (d : Nat)] hs (one_own w _) ad n c (iv l) hx (by rw [iv_len, Nat.mul_one]; exact hn.symm)
      (src ad rfl) (iv_one l) (by unfold maxLen; omega) (by omega) (by simp) (fun v' w' hown hgrow _ => ?_)
    have hown' : w'.ownsRow w.heap.size 3 1 v' (l.length + 1) (iv (d :: l)) := by rw [Nat.add_comm, ← hn]; exact hown
    obtain ⟨a', c', rfl, hB, hF⟩ := own_new hb rfl (Nat.succ_pos _) hown'
    exact hK _ _ _ _ rfl hB hF (((Below.refl _ _).alloc (Nat.le_refl _) _).grown hgrow (by simp) (by intro k hk; cases hk; exact Nat.le_refl _))
end Go.Proofs.YtlmigbfpdbkkjaaDoor
