/- NatLong: powers of the base, and 'append' to a slice just made, as a step of a region that draws its order. -/
import Derived.Test.YtlmigbfpdbkkjaaDoorCNDivides
import Derived.Test.YtlmigbfpdbkkjaaDoorTc
import Derived.Deep.RegionLawGrows
import Derived.Deep.OwnRows
namespace Go.Proofs.YtlmigbfpdbkkjaaDoor
open Go.RowKit

namespace Nt
/-- Zeros, and limbs above them. -/
def zl (i : Nat) (t : List Nat) : List Nat := List.replicate i 0 ++ t
theorem zl_len (i : Nat) (t : List Nat) : (zl i t).length = i + t.length := by simp [zl]
theorem zl_val (i : Nat) (t : List Nat) : val (zl i t) = B ^ i * val t := by
  have h : ∀ i, Pos.val B (List.replicate i 0) = 0 := by
    intro i
    induction i with
    | zero => rfl
    | succ i ih => rw [List.replicate_succ, Pos.val_cons, ih]; simp
  unfold val zl
  rw [Pos.val_append, h, List.length_replicate, Nat.zero_add]
theorem zl_fit (i : Nat) {t : List Nat} (h : Fit t) : Fit (zl i t) := by
  intro x hx
  rcases List.mem_append.1 hx with h' | h'
  · obtain ⟨_, rfl⟩ := List.mem_replicate.1 h'; decide
  · exact h x h'
theorem zl_last (i : Nat) {t : List Nat} (h : t ≠ []) (hl : t.getLast? ≠ some 0) : (zl i t).getLast? ≠ some 0 := by
  unfold zl
  rw [List.getLast?_append]
  cases ht : t.getLast? with
  | none => exact absurd (List.getLast?_eq_none_iff.1 ht) h
  | some x => rw [ht] at hl; simpa using hl
theorem zl_rg (i : Nat) {t : List Nat} (h : t ≠ []) (hl : t.getLast? ≠ some 0) : rg (zl i t) = decide (i + t.length ≤ 1024) := by
  rw [Bool.eq_iff_iff, rg_iff, decide_eq_true_iff, zl_len]
  exact ⟨fun x => x.1, fun x => ⟨x, zl_last i h hl⟩⟩
theorem zl_low (i : Nat) (t : List Nat) (j : Nat) (h : j < i) : (zl i t).getD j 0 = 0 := by
  unfold zl
  rw [List.getD_eq_getElem?_getD, List.getElem?_append_left (by rw [List.length_replicate]; exact h), List.getElem?_replicate, if_pos h]; rfl
theorem zl_high (i : Nat) (t : List Nat) (j : Nat) : (zl i t).getD (i + j) 0 = t.getD j 0 := by
  unfold zl
  rw [List.getD_eq_getElem?_getD, List.getElem?_append_right (by rw [List.length_replicate]; omega), List.length_replicate, Nat.add_sub_cancel_left, ← List.getD_eq_getElem?_getD]
/-- The limbs of a product of two limbs. -/
def two (p : Nat) : List Nat := if p / B = 0 then [p % B] else [p % B, p / B]
theorem two_val (p : Nat) : val (two p) = p := by
  unfold two val
  have := Nat.div_add_mod p B
  generalize B = b at *
  split
  · rename_i h; rw [h] at this; simp only [Pos.val_cons, Pos.val_nil]; simp only [Nat.mul_zero, Nat.zero_add] at this; simpa using this
  · simp only [Pos.val_cons, Pos.val_nil]; simp only [Nat.mul_zero, Nat.add_zero]; rw [Nat.add_comm]; exact this
theorem two_fit {p : Nat} (h : p / B < B) : Fit (two p) := by
  intro x hx
  unfold two at hx
  split at hx
  · simp only [List.mem_singleton] at hx; subst hx; exact Nat.mod_lt _ (by decide)
  · simp only [List.mem_cons, List.not_mem_nil, or_false] at hx
    rcases hx with rfl | rfl
    · exact Nat.mod_lt _ (by decide)
    · exact h
theorem two_ne (p : Nat) : two p ≠ [] := by unfold two; split <;> simp
theorem two_last {p : Nat} (h : 0 < p) : (two p).getLast? ≠ some 0 := by
  unfold two
  have := Nat.div_add_mod p B
  generalize B = b at *
  split
  · rename_i e; rw [e] at this; simp only [Nat.mul_zero, Nat.zero_add] at this; simp; omega
  · rename_i e; simpa using e
theorem two_len (p : Nat) : (two p).length = if p / B = 0 then 1 else 2 := by unfold two; split <;> rfl
/-- The product of two powers of the base. -/
theorem long_mul {i k x y : Nat} (hx : 0 < x) (hx' : x < B) (hy : 0 < y) (hy' : y < B) (hi : i < 1024) (hk : k < 1024) :
    mulR (zl i [x]) (zl k [y]) = if i + k + (two (x * y)).length ≤ 1024 then (zl (i + k) (two (x * y)), 0) else ([], 3) := by
  have one : ∀ {z : Nat}, 0 < z → [z].getLast? ≠ some 0 := by intro z h; simp; omega
  have r1 : rg (zl i [x]) = true := by rw [zl_rg i (by simp) (one hx)]; exact decide_eq_true (by simp; omega)
  have r2 : rg (zl k [y]) = true := by rw [zl_rg k (by simp) (one hy)]; exact decide_eq_true (by simp; omega)
  have hp : 0 < x * y := Nat.mul_pos hx hy
  have hq : x * y / B < B := by
    rw [Nat.div_lt_iff_lt_mul (by decide)]
    exact Nat.lt_of_le_of_lt (Nat.mul_le_mul_left x (Nat.le_of_lt hy')) (Nat.mul_lt_mul_of_pos_right hx' (by decide))
  have hv : val (zl i [x]) * val (zl k [y]) = val (zl (i + k) (two (x * y))) := by
    rw [zl_val, zl_val, zl_val, two_val]
    have e : ∀ z, val [z] = z := by intro z; unfold val; simp [Pos.val_cons, Pos.val_nil]
    rw [e, e, Nat.pow_add]
    exact Nat.mul_mul_mul_comm _ _ _ _
  have hf : Fit (zl (i + k) (two (x * y))) := zl_fit _ (two_fit hq)
  have ho : Pos.Ok B (zl (i + k) (two (x * y))) := ⟨hf, zl_last _ (two_ne _) (two_last hp)⟩
  have hd : dig (val (zl (i + k) (two (x * y)))) = zl (i + k) (two (x * y)) := Pos.dig_of two_B ho
  have ht := rg_dig (val (zl (i + k) (two (x * y))))
  rw [hd, zl_rg _ (two_ne _) (two_last hp)] at ht
  unfold mulR
  rw [if_pos ⟨r1, r2⟩, hv]
  by_cases h : i + k + (two (x * y)).length ≤ 1024
  · rw [decide_eq_true h] at ht
    rw [if_pos (of_decide_eq_true ht.symm), if_pos h, hd]
  · rw [decide_eq_false h] at ht
    rw [if_neg (of_decide_eq_false ht.symm), if_neg h]
end Nt

/-- A cell of a slice just made. -/
theorem made_at (w : World) (e : TypeId) (n b j : Nat) (hb : b = w.heap.size) (hj : j < n) : (w.alloc (.cells (madeCells #[.int .u32 0] n) e)).cell? ⟨b, j, none⟩ = some (.int .u32 0) := by
  subst hb
  exact (World.rowIs_made w (.int .u32 0) n e).cell hj
/-- A cell of an older block. -/
theorem kept_at (w : World) (o : Obj) (b j : Nat) (u : Value) (h : w.cell? ⟨b, j, none⟩ = some u) : (w.alloc o).cell? ⟨b, j, none⟩ = some u := by
  rw [World.cell?_alloc_lt _ _ _ (World.block_lt_of_cell? _ _ h)]; exact h

theorem cv_zl (n X : Nat) : cv (Nt.zl n [X]) = List.replicate n (Value.int .u32 0) ++ [Value.int .u32 X] := by
  unfold cv Nt.zl
  rw [List.map_append, List.map_replicate]; rfl
/-- 'append(make([]uint32, n), X)', as one step of a region that draws its order. -/
theorem step_zl {ops : Array Oper} {o : Oper} {a : Act} {w : World} {K : Act → World → Prop} {Q : Exit → Act → World → Prop} {E : Prop}
    (hg : o.guard = none) (s x : Operand) (hop : o.op = Op.call { callee := Callee.builtin Builtin.append, args := #[s, x], argTypes := #[22, 22] })
    (b n : Nat) (hs : a.eval s = .slice (some ⟨b, 0, none⟩) n n) (d : Nat) (hx : a.eval x = .slice (some ⟨d, 0, none⟩) 1 1)
    (X : Nat) (hX : X < Nt.B) (hn : n ≤ 1024) (hold : ∀ j, j < n → w.cell? ⟨b, j, none⟩ = some (.int .u32 0)) (hnew : w.cell? ⟨d, 0, none⟩ = some (.int .u32 X))
    (hK : ∀ g c w', Lm w' (.slice (some ⟨g, 0, none⟩) (n + 1) c) (Nt.zl n [X]) → Below w.heap.size w w' → K (a.put o.dst (.slice (some ⟨g, 0, none⟩) (n + 1) c)) w') :
    if Region.wanted o (yielded ops a.tmps) = true then Oper.wp Tryd.prog o a w K Q else E := by
  obtain ⟨i0, hi, hz0, hz1, hz2⟩ := info_parts info_limb
  refine step_append_grows hg s x 22 hop 48 i0 (.int .u32 0) 1 4 Tryd.underlying22 hi hz0 hz1 hz2 rfl (by decide)
    (some ⟨b, 0, none⟩) n n (List.replicate n (.int .u32 0)) hs (fun h => by simp at h) (by rw [List.length_replicate, Nat.mul_one])
    (fun b' hb j u hj => ?_) ⟨d, 0, none⟩ 1 1 [.int .u32 X] hx rfl (fun j u hj => ?_) (fun u hu => ?_) (Nat.lt_succ_self n) (by unfold maxLen; omega) (by omega) (fun v' w' hown hgrow => ?_)
  · obtain rfl := Option.some.inj hb
    rw [List.getElem?_replicate] at hj
    split at hj
    · rename_i hlt
      obtain rfl := Option.some.inj hj
      rw [Go.WideShapes.add_plain, Nat.zero_add]; exact hold j hlt
    · cases hj
  · cases j with
    | zero => obtain rfl := Option.some.inj hj; exact hnew
    | succ j => simp at hj
  · rw [List.mem_singleton] at hu; subst hu; rfl
  · have hf : Nt.Fit (Nt.zl n [X]) := Nt.zl_fit n (by intro y hy; rw [List.mem_singleton] at hy; subst hy; exact hX)
    have hl : (Nt.zl n [X]).length = n + 1 := Nt.zl_len n [X]
    rw [← cv_zl] at hown
    obtain ⟨g, c, rfl, _, hc, hr⟩ := own_rw hl.symm hf (Nat.succ_pos n) hown
    have hm := hr.lm (c := c) (by rw [hl]; exact hc)
    rw [hl] at hm
    exact hK g c w' hm ((Below.refl _ w).grown hgrow (Nat.le_refl _) (by intro k hk; cases hk))
/-- A cell just laid. -/
theorem laid_at (w : World) (e : TypeId) (u : Value) (b : Nat) (hb : b = w.heap.size) : (w.alloc (.cells #[u] e)).cell? ⟨b, 0, none⟩ = some u := cell_at w #[u] e 0 u b hb rfl
theorem far_at {w w' : World} (b j : Nat) (u : Value) (hb : Below w.heap.size w w') (h : w.cell? ⟨b, j, none⟩ = some u) : w'.cell? ⟨b, j, none⟩ = some u := (hb.cell (World.block_lt_of_cell? _ _ h)).trans h
/-- Behind a world that is behind another one. -/
theorem bring {u w w' : World} (h : Below w.heap.size w w') (hb : Below u.heap.size u w) : Below u.heap.size u w' := hb.trans (h.mono hb.size)
theorem made {u w : World} (h : Below u.heap.size u w) (o : Obj) : Below u.heap.size u (w.alloc o) := h.alloc h.size o
end Go.Proofs.YtlmigbfpdbkkjaaDoor
