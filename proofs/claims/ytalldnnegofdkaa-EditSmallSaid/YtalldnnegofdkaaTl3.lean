/- The reference's table of distances in memory. -/
import Derived.Test.YtalldnnegofdkaaTl2
import Derived.Deep.RegionWith
import Derived.Deep.RegionHeld3
import Derived.Deep.DeepCutAuto
namespace Go.Proofs.Ytalldnnegofdkaa
open Go.RowKit Go.Shelf

theorem info_rows : (Try.prog.info? 73).map (fun i => (i.zero, i.size, i.bytes)) = some (some (.slice none 0 0), 1, 24) := by kernel_rfl
/-- The reference's costs in a box. -/
def Cbx (W : World) (B : Nat) (c : Ed.Cs) : Prop := W.heap[B]? = some (.cells #[.int .i64 c.ins, .int .i64 c.del, .int .i64 c.chg, .int .i64 c.swp] 58 (0, 0))
theorem Cbx.lt {W : World} {B : Nat} {c : Ed.Cs} (h : Cbx W B c) : B < W.heap.size := (Array.getElem?_eq_some_iff.1 h).1
theorem Cbx.quiet {W W' : World} {B : Nat} {c : Ed.Cs} (h : Cbx W B c) (k : Below W.heap.size W W') : Cbx W' B c := (k.block B h.lt).trans h
theorem Cbx.sv {W W' : World} {B g : Nat} {c : Ed.Cs} (h : Cbx W B c) (k : Sv g W W') (hg : B ≠ g) : Cbx W' B c := (k.block B h.lt hg).trans h
/-- The rows from i on are done. -/
structure Tb (c : Ed.Cs) (q m n : Nat) (D : Nat → Nat → Int) (w W : World) (i : Nat) : Prop where
  bl : Below w.heap.size w W
  far : w.heap.size < q
  box : Cbx W w.heap.size c
  mat : ∃ (cur : Array Value) (t : TypeId), W.heap[q]? = some (.cells cur t (0, 0)) ∧ cur.size = m + 1 ∧ ∀ j, i ≤ j → j ≤ m → ∃ g, q < g ∧ cur[j]? = some (.slice (some ⟨g, 0, none⟩) (n + 1) (n + 1)) ∧ Ir W g n (D j)
theorem Tb.quiet {c : Ed.Cs} {q m n i : Nat} {D : Nat → Nat → Int} {w W W' : World} (h : Tb c q m n D w W i) (k : Below W.heap.size W W') : Tb c q m n D w W' i := by
  obtain ⟨cur, t, h1, h2, h3⟩ := h.mat
  have l2 := (Array.getElem?_eq_some_iff.1 h1).1
  refine ⟨h.bl.trans (k.mono h.bl.size), h.far, h.box.quiet k, cur, t, (k.block q l2).trans h1, h2, fun j h4 h5 => ?_⟩
  obtain ⟨g, h6, h7, h8⟩ := h3 j h4 h5
  exact ⟨g, h6, h7, h8.quiet k⟩
theorem Tb.start (c : Ed.Cs) (m n : Nat) (D : Nat → Nat → Int) (w : World) : Tb c (w.heap.size + 1) m n D w ((w.alloc (.cells #[.int .i64 c.ins, .int .i64 c.del, .int .i64 c.chg, .int .i64 c.swp] 58)).alloc (.cells (madeCells #[.slice none 0 0] (m + 1)) 73)) (m + 1) := by
  refine ⟨((Below.refl _ _).alloc (Nat.le_refl _) _).alloc (by simp) _, Nat.lt_succ_self _, ?_, madeCells #[.slice none 0 0] (m + 1), 73, ?_, by simp [size_madeCells], fun j h1 h2 => by omega⟩
  · show _ = _
    rw [Below.heap_alloc _ _ _ (by simp)]; exact heap_alloc_new _ _
  · have := heap_alloc_new (w.alloc (.cells #[.int .i64 c.ins, .int .i64 c.del, .int .i64 c.chg, .int .i64 c.swp] 58)) (.cells (madeCells #[.slice none 0 0] (m + 1)) 73)
    simpa using this
theorem Tb.slot {c : Ed.Cs} {q m n i : Nat} {D : Nat → Nat → Int} {w W : World} (h : Tb c q m n D w W (i + 1)) (hi : i ≤ m) : q ≠ W.heap.size ∧ ∃ v, ∀ o, (W.alloc o).cell? ⟨q, i, none⟩ = some v ∧ (W.alloc o).frozen? ⟨q, i, none⟩ = false := by
  obtain ⟨cur, t, h1, h2, h3⟩ := h.mat
  have l2 := (Array.getElem?_eq_some_iff.1 h1).1
  obtain ⟨v, hv⟩ : ∃ v, cur[i]? = some v := ⟨_, Array.getElem?_eq_getElem (by omega)⟩
  exact ⟨by omega, v, fun o => ⟨by rw [cell_of_row _ _ _ cur _ _ ((Below.heap_alloc W o _ l2).trans h1), hv], Lib.frozen_of_heap ((Below.heap_alloc W o _ l2).trans h1) i⟩⟩
/-- Row i is begun. -/
structure Tr (c : Ed.Cs) (q m n i g0 : Nat) (D : Nat → Nat → Int) (w W : World) (F : Nat → Int) : Prop where
  bl : Below w.heap.size w W
  far : w.heap.size < q
  qg : q < g0
  box : Cbx W w.heap.size c
  mat : ∃ (cur : Array Value) (t : TypeId), W.heap[q]? = some (.cells cur t (0, 0)) ∧ cur.size = m + 1 ∧ cur[i]? = some (.slice (some ⟨g0, 0, none⟩) (n + 1) (n + 1)) ∧ ∀ j, i < j → j ≤ m → ∃ g, q < g ∧ g ≠ g0 ∧ cur[j]? = some (.slice (some ⟨g, 0, none⟩) (n + 1) (n + 1)) ∧ Ir W g n (D j)
  row : Ir W g0 n F
theorem Tb.row {c : Ed.Cs} {q m n i : Nat} {D : Nat → Nat → Int} {w W : World} (h : Tb c q m n D w W (i + 1)) (hi : i ≤ m) :
    Tr c q m n i W.heap.size D w ((W.alloc (.cells (madeCells #[.int .i64 0] (n + 1)) 3)).setCell ⟨q, i, none⟩ (.slice (some ⟨W.heap.size, 0, none⟩) (n + 1) (n + 1))) (fun _ => 0) := by
  obtain ⟨cur, t, h1, h2, h3⟩ := h.mat
  have l2 := (Array.getElem?_eq_some_iff.1 h1).1
  have hf := h.far
  have ka : Below W.heap.size W (W.alloc (.cells (madeCells #[.int .i64 0] (n + 1)) 3)) := (Below.refl _ _).alloc (Nat.le_refl _) _
  refine ⟨(h.bl.trans (ka.mono h.bl.size)).setCell (p := ⟨q, i, none⟩) (Nat.le_of_lt hf) _, hf, l2, (h.box.quiet ka).sv (Sv.set q i _ _) (by omega), ⟨cur.setIfInBounds i (.slice (some ⟨W.heap.size, 0, none⟩) (n + 1) (n + 1)), t, heap_setCell_same _ _ _ cur _ _ ((ka.block q l2).trans h1), by simpa using h2, by simp [show i < cur.size by omega], fun j h4 h5 => ?_⟩, ?_⟩
  · obtain ⟨g, h6, h7, h8⟩ := h3 j (by omega) h5
    have hl := h8.lt
    refine ⟨g, h6, by omega, by rw [Array.getElem?_setIfInBounds_ne (by omega)]; exact h7, (h8.quiet ka).sv (Sv.set q i _ _) (by omega)⟩
  · refine Ir.sv ?_ (Sv.set q i _ _) (by omega)
    refine ⟨_, _, heap_alloc_new _ _, by simp [size_madeCells], fun j hj => ?_⟩
    have : j < n + 1 := by omega
    simp [madeCells, this, Nat.mod_one]
theorem Tr.quiet {c : Ed.Cs} {q m n i g0 : Nat} {D : Nat → Nat → Int} {w W W' : World} {F : Nat → Int} (h : Tr c q m n i g0 D w W F) (k : Below W.heap.size W W') : Tr c q m n i g0 D w W' F := by
  obtain ⟨cur, t, h1, h2, h0, h3⟩ := h.mat
  have l2 := (Array.getElem?_eq_some_iff.1 h1).1
  refine ⟨h.bl.trans (k.mono h.bl.size), h.far, h.qg, h.box.quiet k, ⟨cur, t, (k.block q l2).trans h1, h2, h0, fun j h4 h5 => ?_⟩, h.row.quiet k⟩
  obtain ⟨g, h6, h6', h7, h8⟩ := h3 j h4 h5
  exact ⟨g, h6, h6', h7, h8.quiet k⟩
theorem Tr.put {c : Ed.Cs} {q m n i g0 : Nat} {D : Nat → Nat → Int} {w W : World} {F : Nat → Int} (h : Tr c q m n i g0 D w W F) (j : Nat) (y : Int) : Tr c q m n i g0 D w (W.setCell ⟨g0, j, none⟩ (.int .i64 y)) (fun k => if k = j then y else F k) := by
  obtain ⟨cur, t, h1, h2, h0, h3⟩ := h.mat
  have hq := h.qg
  have hf := h.far
  refine ⟨h.bl.setCell (p := ⟨g0, j, none⟩) (by show _ ≤ g0; omega) _, hf, hq, h.box.sv (Sv.set g0 j _ _) (by omega), ⟨cur, t, ?_, h2, h0, fun j' h4 h5 => ?_⟩, h.row.put j y⟩
  · rw [Below.heap_setCell _ ⟨g0, j, none⟩ _ _ (by show q ≠ g0; omega)]; exact h1
  · obtain ⟨g, h6, h6', h7, h8⟩ := h3 j' h4 h5
    exact ⟨g, h6, h6', h7, h8.sv (Sv.set g0 j _ _) h6'⟩
theorem Tr.done {c : Ed.Cs} {q m n i g0 : Nat} {D : Nat → Nat → Int} {w W : World} {F : Nat → Int} (h : Tr c q m n i g0 D w W F) (e : ∀ j, j ≤ n → F j = D i j) : Tb c q m n D w W i := by
  obtain ⟨cur, t, h1, h2, h0, h3⟩ := h.mat
  refine ⟨h.bl, h.far, h.box, cur, t, h1, h2, fun j h4 h5 => ?_⟩
  by_cases hj : j = i
  · subst hj; exact ⟨g0, h.qg, h0, h.row.congr e⟩
  · obtain ⟨g, h6, _, h7, h8⟩ := h3 j (by omega) h5
    exact ⟨g, h6, h7, h8⟩
/-- A cell that is done. -/
theorem Tr.get {c : Ed.Cs} {q m n i g0 j : Nat} {D : Nat → Nat → Int} {w W : World} {F : Nat → Int} (h : Tr c q m n i g0 D w W F) (hF : ∀ j', j < j' → j' ≤ n → F j' = D i j') (i' j' : Nat) (hi : i ≤ i') (hm : i' ≤ m) (hn : j' ≤ n) (hl : i < i' ∨ j < j') :
    ∃ g, W.cell? ⟨q, i', none⟩ = some (.slice (some ⟨g, 0, none⟩) (n + 1) (n + 1)) ∧ W.cell? ⟨g, j', none⟩ = some (.int .i64 (D i' j')) := by
  obtain ⟨cur, t, h1, h2, h0, h3⟩ := h.mat
  by_cases e : i' = i
  · subst e
    exact ⟨g0, by rw [cell_of_row _ _ _ _ _ _ h1, h0], by rw [h.row.cell hn, hF j' (by omega) hn]⟩
  · obtain ⟨g, _, _, h7, h8⟩ := h3 i' (by omega) hm
    exact ⟨g, by rw [cell_of_row _ _ _ _ _ _ h1, h7], h8.cell hn⟩
theorem Tr.here {c : Ed.Cs} {q m n i g0 : Nat} {D : Nat → Nat → Int} {w W : World} {F : Nat → Int} (h : Tr c q m n i g0 D w W F) : W.cell? ⟨q, i, none⟩ = some (.slice (some ⟨g0, 0, none⟩) (n + 1) (n + 1)) := by
  obtain ⟨cur, t, h1, h2, h0, h3⟩ := h.mat
  rw [cell_of_row _ _ _ _ _ _ h1, h0]
theorem Cbx.cells {W : World} {B : Nat} {c : Ed.Cs} (h : Cbx W B c) : W.cell? ⟨B, 0, none⟩ = some (.int .i64 c.ins) ∧ W.cell? ⟨B, 1, none⟩ = some (.int .i64 c.del) ∧ W.cell? ⟨B, 2, none⟩ = some (.int .i64 c.chg) ∧ W.cell? ⟨B, 3, none⟩ = some (.int .i64 c.swp) := by
  refine ⟨?_, ?_, ?_, ?_⟩ <;> (rw [Lib.cell_of_heap h]; rfl)
namespace Ed
theorem rest_is (l : Bs) (a : ByteArray) (i : Nat) (h : a = ⟨l.toArray⟩) : a.extract i a.size = ⟨(l.drop i).toArray⟩ := by
  rw [extract_is, h, size_is]
  show (⟨((l.drop i).take (l.length - i)).toArray⟩ : ByteArray) = _
  rw [List.take_of_length_le (by rw [List.length_drop]; exact Nat.le_refl _)]
theorem rb_same {c : Cs} {D : Bs → Bs → Int} {k : Nat} {us vs : Bs} (hk : 1 ≤ k) (h : ¬ (ft k us vs = true ∧ (rb c D (k - 1) us vs < 0 ∨ co c k + D (us.drop (tk k)) (vs.drop (wr k)) < rb c D (k - 1) us vs))) : rb c D (k - 1) us vs = rb c D (k + 1 - 1) us vs := by
  obtain ⟨q, rfl⟩ : ∃ q, k = q + 1 := ⟨k - 1, by omega⟩
  rw [Nat.add_sub_cancel] at h ⊢
  exact (if_neg h).symm
theorem rb_more {c : Cs} {D : Bs → Bs → Int} {k : Nat} {us vs : Bs} (hk : 1 ≤ k) (h : ft k us vs = true ∧ (rb c D (k - 1) us vs < 0 ∨ co c k + D (us.drop (tk k)) (vs.drop (wr k)) < rb c D (k - 1) us vs)) : co c k + D (us.drop (tk k)) (vs.drop (wr k)) = rb c D (k + 1 - 1) us vs := by
  obtain ⟨q, rfl⟩ : ∃ q, k = q + 1 := ⟨k - 1, by omega⟩
  rw [Nat.add_sub_cancel] at h
  exact (if_pos h).symm
end Ed
end Go.Proofs.Ytalldnnegofdkaa
