/- What Path keeps of each row of distances. -/
import Derived.Test.YtalldnnegofdkaaEp
import Derived.Test.YtalldnnegofdkaaShelf
namespace Go.Proofs.Ytalldnnegofdkaa
open Go.RowKit Go.Shelf

/-- A row of ints that lies beyond measure's own. -/
structure Kr (B : Nat) (W : World) (g n : Nat) (f : Nat → Int) : Prop where
  far : B + 5 ≤ g
  row : ∀ j, j ≤ n → W.cell? ⟨g, j, none⟩ = some (.int .i64 (f j))
/-- The rows that are kept so far: those from i on. -/
structure Kept (b B rv q m n : Nat) (D : Nat → Nat → Int) (w W : World) (i : Nat) : Prop where
  bl : Below b w W
  bs : b ≤ W.heap.size
  var : W.cell? ⟨rv, 0, none⟩ = some (.slice (some ⟨q, 0, none⟩) (m + 1) (m + 1))
  mat : ∃ (cur : Array Value) (t : TypeId), W.heap[q]? = some (.cells cur t (0, 0)) ∧ cur.size = m + 1 ∧ ∀ j, i ≤ j → j ≤ m → ∃ g cap, cur[j]? = some (.slice (some ⟨g, 0, none⟩) (n + 1) cap) ∧ Kr B W g n (D j)
theorem Kr.stab {B g n : Nat} {f : Nat → Int} {W W' : World} (h : Kr B W g n f) (k : Stab B W W') : Kr B W' g n f :=
  ⟨h.far, fun j hj => by
    have c := h.row j hj
    have hl := World.block_lt_of_cell? _ _ c
    have hg := h.far
    rw [World.cell?_of_block (w := W) (k.block g hl (by omega)), c]⟩
theorem Kept.stab {b B rv q m n i : Nat} {D : Nat → Nat → Int} {w W W' : World} (h : Kept b B rv q m n D w W i) (k : Stab B W W') (hb : b ≤ B) (hr : rv < B) (hq : q < B) : Kept b B rv q m n D w W' i := by
  obtain ⟨cur, t, h1, h2, h3⟩ := h.mat
  have l1 := World.block_lt_of_cell? _ _ h.var
  have l2 := (Array.getElem?_eq_some_iff.1 h1).1
  refine ⟨Stab.below h.bl k hb h.bs, Nat.le_trans h.bs k.size, ?_, cur, t, (k.block q l2 (by omega)).trans h1, h2, fun j h4 h5 => ?_⟩
  · rw [World.cell?_of_block (w := W) (k.block rv l1 (fun e => absurd e.1 (Nat.not_le_of_lt hr))), h.var]
  · obtain ⟨g, cap, h6, h7⟩ := h3 j h4 h5
    exact ⟨g, cap, h6, h7.stab k⟩
/-- A row more. -/
theorem Kept.next {b B rv q m n i g cap : Nat} {D : Nat → Nat → Int} {w W W1 : World} (h : Kept b B rv q m n D w W (i + 1)) (k : Below W.heap.size W W1) (hb : b ≤ q) (hq : q < B) (hr : rv ≠ q) (hi : i ≤ m) (r : Kr B W1 g n (D i)) :
    Kept b B rv q m n D w (W1.setCell ⟨q, i, none⟩ (.slice (some ⟨g, 0, none⟩) (n + 1) cap)) i := by
  obtain ⟨cur, t, h1, h2, h3⟩ := h.mat
  have l2 := (Array.getElem?_eq_some_iff.1 h1).1
  have kr : ∀ {W2 : World} {g' : Nat} {f : Nat → Int}, Kr B W2 g' n f → Kr B (W2.setCell ⟨q, i, none⟩ (.slice (some ⟨g, 0, none⟩) (n + 1) cap)) g' n f := fun {_ g' _} x =>
    ⟨x.far, fun j hj => (Sv.set q i _ _).cell (p := ⟨g', j, none⟩) (fun e => by have := x.far; have e' : g' = q := e; omega) (x.row j hj)⟩
  refine ⟨(h.bl.trans (k.mono h.bs)).setCell (p := ⟨q, i, none⟩) hb _, by simpa using Nat.le_trans h.bs k.size, (Sv.set q i _ _).cell (p := ⟨rv, 0, none⟩) hr (below_cell k h.var), cur.setIfInBounds i (.slice (some ⟨g, 0, none⟩) (n + 1) cap), t, heap_setCell_same _ _ _ cur _ _ ((k.block q l2).trans h1), by simpa using h2, fun j h4 h5 => ?_⟩
  by_cases e : j = i
  · subst e
    have hs : j < cur.size := by omega
    exact ⟨g, cap, by simp [hs], kr r⟩
  · obtain ⟨g', cap', h6, h7⟩ := h3 j (by omega) h5
    refine ⟨g', cap', by rw [Array.getElem?_setIfInBounds_ne (fun x => e x.symm)]; exact h6, kr ⟨h7.far, fun j hj => below_cell k (h7.row j hj)⟩⟩
set_option maxRecDepth 100000 in
set_option maxHeartbeats 1600000 in
theorem clone_row (b n : Nat) (f : Nat → Int) (hn : n ≤ 1000) (W : World) (h : Ir W b n f) : Calls Try.prog 43 #[.slice (some ⟨b, 0, none⟩) (n + 1) (n + 1)] W fun e W1 => ∃ g cap, e = .returned (.slice (some ⟨g, 0, none⟩) (n + 1) cap) ∧ W.heap.size ≤ g ∧ (∀ j, j ≤ n → W1.cell? ⟨g, j, none⟩ = some (.int .i64 (f j))) ∧ Below W.heap.size W W1 := by
  obtain ⟨zs, hz⟩ : ∃ zs, zs = (List.range (n + 1)).map f := ⟨_, rfl⟩
  have hl : zs.length = n + 1 := by rw [hz]; simp
  have hg : ∀ j, j ≤ n → zs.getD j 0 = f j := by
    intro j hj
    rw [hz, List.getD_eq_getElem?_getD, List.getElem?_map, List.getElem?_range (by omega)]; rfl
  refine (Try.slices_Clone_int b 0 (n + 1) (n + 1) zs W (by omega) (by omega) (fun j hj => by rw [Nat.zero_add, h.cell (by omega), hg j (by omega)])).mono ?_
  rintro e W1 ⟨v, rfl, hown, -, hb⟩
  rw [List.take_of_length_le (by omega)] at hown
  rcases hown.2 with ⟨rfl, h0⟩ | ⟨g, cap, cur, rfl, hB, _, hcap, _⟩
  · omega
  · refine ⟨g, cap, rfl, hB, fun j hj => ?_, hb⟩
    have := hown.cellAt j (by omega)
    rw [this, List.getElem?_map, List.getElem?_eq_getElem (by omega), ← hg j hj, List.getD_eq_getElem?_getD, List.getElem?_eq_getElem (by omega)]
    rfl
set_option maxRecDepth 100000 in
set_option maxHeartbeats 1600000 in
theorem seen_clone (b B rv q m n i br : Nat) (D : Nat → Nat → Int) (w W : World) (h : Kept b B rv q m n D w W (i + 1)) (hb : b ≤ q) (hq : q < B) (hrq : rv ≠ q) (hi : i ≤ m) (hB : B + 5 ≤ W.heap.size) (hn : n ≤ 60) (hr : Ir W br n (D i)) :
    Calls Try.prog 42 #[.int .i64 i, .slice (some ⟨br, 0, none⟩) (n + 1) (n + 1), .pointer (some ⟨rv, 0, none⟩)] W fun e W' => e = .returned (.tuple #[]) ∧ Kept b B rv q m n D w W' i ∧ Seen B W W' := by
  have CL := Lib.hid (fun W h => clone_row br n (D i) (by omega) W h)
  have HR := Lib.hid hr
  have HK := Lib.hid h
  have c1 := h.var
  obtain ⟨cur, t, h1, h2, h3⟩ := h.mat
  have l2 := (Array.getElem?_eq_some_iff.1 h1).1
  obtain ⟨x, hx⟩ : ∃ x, cur[i]? = some x := ⟨_, Array.getElem?_eq_getElem (by omega)⟩
  have c2 : W.cell? ⟨q, i, none⟩ = some x := by rw [cell_of_row _ _ _ _ _ _ h1, hx]
  have f2 : W.frozen? ⟨q, i, none⟩ = false := Lib.frozen_of_heap h1 i
  have i1 : (i : Int) < (m : Int) + 1 := by omega
  clear h h1 h2 h3 hr
  go_enter Try.func42, Try.ntmps42
  go_upto_region 0 with fail
  have c1 : W.drew.cell? ⟨rv, 0, none⟩ = some (.slice (some ⟨q, 0, none⟩) (m + 1) (m + 1)) := c1
  have c2 : W.drew.cell? ⟨q, i, none⟩ = some x := c2
  have f2 : W.drew.frozen? ⟨q, i, none⟩ = false := f2
  have r1 : Ir W.drew br n (D i) := HR.out
  have gb : Below W.heap.size W W.drew := (Below.refl _ _).drew
  go_region_held3 (fun w' => w'.cell? ⟨rv, 0, none⟩ = some (.slice (some ⟨q, 0, none⟩) (m + 1) (m + 1))) (first | assumption | (exact (Sv.set q i _ _).cell (p := ⟨rv, 0, none⟩) hrq c1) | skip)
    (first
      | (go_at_call 43; (with_reducible refine (CL.out _ r1).mono ?_); rintro e w5 ⟨g, cap, rfl, hg, hrow, b5⟩; have c1 := below_cell b5 c1; have c2 := below_cell b5 c2; have f2 : w5.frozen? ⟨q, i, none⟩ = false := (b5.frozen l2).trans f2; have gb := gb.trans (b5.mono gb.size); clear b5))
  go_wp2
  go_end0
  have K := HK.out.next (g := g) (cap := cap) gb hb hq hrq hi ⟨by have hs : W.heap.size ≤ g := hg; omega, hrow⟩
  refine ⟨rfl, K, ?_, fun k h1 h2 => ?_⟩
  · simpa using gb.size
  · rw [Below.heap_setCell _ _ _ _ (by show k ≠ q; omega)]
    exact gb.block k h2
/-- How Path sees. -/
theorem sees_path (c : Ed.Cs) (xs ys : Ed.Bs) (hy : ys.length ≤ 60) (b rv q : Nat) (w w1 : World) (hb : b ≤ q) (hq : q < w1.heap.size) (hr : rv < w1.heap.size) (hrq : rv ≠ q) :
    Sees w1.heap.size c xs ys 42 #[.pointer (some ⟨rv, 0, none⟩)] (fun W i => Kept b w1.heap.size rv q xs.length ys.length (fun i j => Ed.ds c (xs.drop i) (ys.drop j)) w W i) where
  enters := enters_of Try.func42 (by kernel_rfl) rfl
  stab := fun _ _ _ h k => h.stab k (by omega) hr hq
  call := fun W i br h hB _ _ hi R => seen_clone b w1.heap.size rv q xs.length ys.length i br _ w W h hb hq hrq hi hB hy R
end Go.Proofs.Ytalldnnegofdkaa
