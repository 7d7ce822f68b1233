/- Rows of limbs in memory that are written in place. -/
import Derived.Test.YtjfopggpohakkaaLm
import Derived.Test.YtjfopggpohakkaaLi
namespace Go.Proofs.Ytjfopggpohakkaa
open Go.RowKit

/-- A block whose first cells are limbs. -/
def Rw (w : World) (g : Nat) (l : List Nat) : Prop := Nt.Fit l ∧ ∃ (cur : Array Value) (t : TypeId), w.heap[g]? = some (.cells cur t (0, 0)) ∧ ∀ j, j < l.length → cur[j]? = some (.int .u32 (l.getD j 0 : Nat))
theorem Rw.fit {w : World} {g : Nat} {l : List Nat} (h : Rw w g l) : Nt.Fit l := h.1
theorem Rw.lt {w : World} {g : Nat} {l : List Nat} (h : Rw w g l) : g < w.heap.size := by
  obtain ⟨_, cur, t, hg, _⟩ := h
  exact (Array.getElem?_eq_some_iff.1 hg).1
theorem Rw.cell {w : World} {g : Nat} {l : List Nat} (h : Rw w g l) {j : Nat} (hj : j < l.length) : w.cell? ⟨g, j, none⟩ = some (.int .u32 (l.getD j 0 : Nat)) := by
  obtain ⟨_, cur, t, hg, hc⟩ := h
  rw [cell_of_row w g j cur t (0, 0) hg, hc j hj]
theorem Rw.free {w : World} {g : Nat} {l : List Nat} (h : Rw w g l) (j : Nat) : w.frozen? ⟨g, j, none⟩ = false := by
  obtain ⟨_, cur, t, hg, _⟩ := h
  simp [World.frozen?, hg]
theorem Rw.put {w : World} {g : Nat} {l : List Nat} (h : Rw w g l) (j y : Nat) (hy : y < Nt.B) : Rw (w.setCell ⟨g, j, none⟩ (.int .u32 (y : Nat))) g (l.set j y) := by
  obtain ⟨hf, cur, t, hg, hc⟩ := h
  refine ⟨Nt.fit_set hf hy, cur.setIfInBounds j (.int .u32 (y : Nat)), t, heap_setCell_same w g j cur t _ hg, fun i hi => ?_⟩
  rw [List.length_set] at hi
  have := hc i hi
  by_cases e : i = j
  · subst e
    have hs : i < cur.size := (Array.getElem?_eq_some_iff.1 this).1
    rw [List.getD_eq_getElem?_getD, List.getElem?_set_self hi]
    simp [hs]
  · rw [List.getD_eq_getElem?_getD, List.getElem?_set_ne (by omega), ← List.getD_eq_getElem?_getD, ← this]
    simp [Array.getElem?_setIfInBounds]
    intro e2; exact absurd e2.symm e
/-- All blocks but one are as they were; that one has its cells, of as many and of the same type. -/
structure Sv (g : Nat) (w w' : World) : Prop where
  os : w'.os = w.os
  tape : w'.tape = w.tape
  output : w'.output = w.output
  size : w.heap.size ≤ w'.heap.size
  block : ∀ k, k < w.heap.size → k ≠ g → w'.heap[k]? = w.heap[k]?
  shape : ∀ cur t, w.heap[g]? = some (.cells cur t (0, 0)) → ∃ cur' : Array Value, w'.heap[g]? = some (.cells cur' t (0, 0)) ∧ cur'.size = cur.size
theorem Sv.refl (g : Nat) (w : World) : Sv g w w := ⟨rfl, rfl, rfl, Nat.le_refl _, fun _ _ _ => rfl, fun cur _ h => ⟨cur, h, rfl⟩⟩
theorem Sv.trans {g : Nat} {a b c : World} (h : Sv g a b) (k : Sv g b c) : Sv g a c := by
  refine ⟨k.os.trans h.os, k.tape.trans h.tape, k.output.trans h.output, Nat.le_trans h.size k.size, fun i hi hg => (k.block i (Nat.lt_of_lt_of_le hi h.size) hg).trans (h.block i hi hg), fun cur t e => ?_⟩
  obtain ⟨c1, e1, s1⟩ := h.shape cur t e
  obtain ⟨c2, e2, s2⟩ := k.shape c1 t e1
  exact ⟨c2, e2, s2.trans s1⟩
theorem Sv.of_below {g : Nat} {w w' : World} (h : Below w.heap.size w w') : Sv g w w' :=
  ⟨h.os, h.tape, h.output, h.size, fun k hk _ => h.block k hk, fun cur _ e => ⟨cur, (h.block g (Array.getElem?_eq_some_iff.1 e).1).trans e, rfl⟩⟩
/-- A block that is new may change, too. -/
theorem Sv.fresh {g p : Nat} {a b c : World} (h : Sv g a b) (k : Sv p b c) (hp : a.heap.size ≤ p) : Sv g a c := by
  refine ⟨k.os.trans h.os, k.tape.trans h.tape, k.output.trans h.output, Nat.le_trans h.size k.size, fun i hi hg => (k.block i (Nat.lt_of_lt_of_le hi h.size) (by omega)).trans (h.block i hi hg), fun cur t e => ?_⟩
  obtain ⟨c1, e1, s1⟩ := h.shape cur t e
  have hg := (Array.getElem?_eq_some_iff.1 e).1
  have hs := h.size
  exact ⟨c1, (k.block g (by omega) (by omega)).trans e1, s1⟩
theorem Sv.quiet {g : Nat} {a b c : World} (h : Sv g a b) (k : Below b.heap.size b c) : Sv g a c := h.trans (Sv.of_below k)
theorem Sv.set (w : World) (a : Addr) (v : Value) (h0 : a = ⟨a.block, a.off, none⟩ := by rfl) : Sv a.block w (w.setCell a v) := by
  refine ⟨rfl, rfl, rfl, by simp, fun k _ hg => Below.heap_setCell w a v k hg, fun cur t e => ?_⟩
  have h := heap_setCell_same w a.block a.off cur t v e
  rw [← h0] at h
  exact ⟨cur.setIfInBounds a.off v, h, by simp⟩
theorem Sv.sets {g j : Nat} {w0 w : World} (h : Sv g w0 w) (v : Value) : Sv g w0 (w.setCell ⟨g, j, none⟩ v) := h.trans (Sv.set w ⟨g, j, none⟩ v)
theorem Sv.below {B g : Nat} {w0 w w' : World} (h : Below B w0 w) (k : Sv g w w') (hg : B ≤ g) (hB : B ≤ w.heap.size) : Below B w0 w' :=
  h.trans ⟨k.os, k.tape, k.output, k.size, fun i hi => k.block i (by omega) (by omega)⟩
theorem Sv.self {g : Nat} {w w' : World} (k : Sv g w w') (hg : w.heap.size ≤ g) : Below w.heap.size w w' := Sv.below (Below.refl _ _) k hg (Nat.le_refl _)
theorem Sv.cell {g : Nat} {w w' : World} {p : Addr} {v : Value} (h : Sv g w w') (hp : p.block ≠ g) (hc : w.cell? p = some v) : w'.cell? p = some v := by
  have hlt := World.block_lt_of_cell? _ _ hc
  have hb := h.block p.block hlt hp
  have e : w'.cell? p = w.cell? p := by
    unfold World.cell?
    rw [hb]
  rw [e, hc]
theorem Sv.frozen {g : Nat} {w w' : World} {p : Addr} (h : Sv g w w') (hp : p.block ≠ g) (hl : p.block < w.heap.size) : w'.frozen? p = w.frozen? p :=
  World.frozen?_of_block (h.block p.block hl hp)
theorem Sv.rw {g k : Nat} {w w' : World} {l : List Nat} (h : Sv g w w') (hk : k ≠ g) (r : Rw w k l) : Rw w' k l := by
  have hlt := r.lt
  obtain ⟨hf, cur, t, hg, hc⟩ := r
  exact ⟨hf, cur, t, (h.block k hlt hk).trans hg, hc⟩
/-- A slice that reads as limbs, none of them in a block. -/
def Lx (g : Nat) (w : World) (v : Value) (l : List Nat) : Prop := ∃ (a : Option Addr) (c : Nat), v = .slice a l.length c ∧ Nt.Fit l ∧ (a = none → c = 0) ∧ l.length ≤ c ∧ (l = [] ∨ ∃ b off, a = some ⟨b, off, none⟩ ∧ b ≠ g ∧ ∀ j, j < l.length → w.cell? ⟨b, off + j, none⟩ = some (.int .u32 (l.getD j 0 : Nat)))
theorem Lx.lm {g : Nat} {w : World} {v : Value} {l : List Nat} (h : Lx g w v l) : Lm w v l := by
  obtain ⟨a, c, rfl, hf, ha, hc, h⟩ := h
  refine ⟨a, c, rfl, hf, ha, hc, ?_⟩
  rcases h with h | ⟨b, off, rfl, _, h⟩
  · exact Or.inl h
  · exact Or.inr ⟨b, off, rfl, h⟩
theorem Lm.lx {g : Nat} {w : World} {v : Value} {l : List Nat} (h : Lm w v l) (hg : w.heap.size ≤ g) : Lx g w v l := by
  obtain ⟨a, c, rfl, hf, ha, hc, h⟩ := h
  refine ⟨a, c, rfl, hf, ha, hc, ?_⟩
  by_cases e : l = []
  · exact Or.inl e
  rcases h with h | ⟨b, off, rfl, h⟩
  · exact Or.inl h
  · have h0 : 0 < l.length := List.length_pos_iff.2 e
    have := World.block_lt_of_cell? _ _ (h 0 h0)
    exact Or.inr ⟨b, off, rfl, by simp at this; omega, h⟩
theorem Lx.sv {g : Nat} {w w' : World} {v : Value} {l : List Nat} (h : Lx g w v l) (k : Sv g w w') : Lx g w' v l := by
  obtain ⟨a, c, rfl, hf, ha, hc, h⟩ := h
  refine ⟨a, c, rfl, hf, ha, hc, ?_⟩
  rcases h with h | ⟨b, off, rfl, hb, h⟩
  · exact Or.inl h
  · exact Or.inr ⟨b, off, rfl, hb, fun j hj => k.cell hb (h j hj)⟩
theorem Lx.fit {g : Nat} {w : World} {v : Value} {l : List Nat} (h : Lx g w v l) : Nt.Fit l := h.lm.fit
/-- A row as a slice. -/
theorem Rw.lm {w : World} {g c : Nat} {l : List Nat} (h : Rw w g l) (hc : l.length ≤ c) : Lm w (.slice (some ⟨g, 0, none⟩) l.length c) l :=
  ⟨_, c, rfl, h.fit, (fun e => by cases e), hc, Or.inr ⟨g, 0, rfl, fun j hj => by rw [Nat.zero_add]; exact h.cell hj⟩⟩
theorem Rw.lx {w : World} {g c k : Nat} {l : List Nat} (h : Rw w g l) (hc : l.length ≤ c) (hk : g ≠ k) : Lx k w (.slice (some ⟨g, 0, none⟩) l.length c) l :=
  ⟨_, c, rfl, h.fit, (fun e => by cases e), hc, Or.inr ⟨g, 0, rfl, hk, fun j hj => by rw [Nat.zero_add]; exact h.cell hj⟩⟩
theorem Rw.below {w w' : World} {g B : Nat} {l : List Nat} (h : Rw w g l) (hb : Below B w w') (hg : g < B) : Rw w' g l := by
  obtain ⟨hf, cur, t, hg', hc⟩ := h
  exact ⟨hf, cur, t, (hb.block g hg).trans hg', hc⟩
theorem Rw.quiet {w w' : World} {g : Nat} {l : List Nat} (h : Rw w g l) (hb : Below w.heap.size w w') : Rw w' g l := h.below hb h.lt
theorem Rw.take {w : World} {g : Nat} {l : List Nat} (h : Rw w g l) (k : Nat) : Rw w g (l.take k) := by
  obtain ⟨hf, cur, t, hg, hc⟩ := h
  refine ⟨Nt.fit_take hf k, cur, t, hg, fun j hj => ?_⟩
  rw [List.length_take] at hj
  rw [hc j (by omega), List.getD_eq_getElem?_getD, List.getD_eq_getElem?_getD, List.getElem?_take_of_lt (by omega)]
/-- A row that append made. -/
theorem own_rw {w : World} {B n : Nat} {v : Value} {l : List Nat} (hn : n = l.length) (hf : Nt.Fit l) (h0 : 0 < n) (h : w.ownsRow B 55 1 v n (cv l)) : ∃ g c, v = .slice (some ⟨g, 0, none⟩) n c ∧ B ≤ g ∧ n ≤ c ∧ Rw w g l := by
  rcases h.2 with ⟨_, h1⟩ | ⟨g, cap, cur, rfl, hB, hg, hcap, _, _, htake⟩
  · omega
  · refine ⟨g, cap, rfl, hB, hcap, hf, cur, _, hg, fun j hj => ?_⟩
    have e : cur.toList[j]? = (cv l)[j]? := by rw [← htake, List.getElem?_take_of_lt (by omega)]
    rw [Array.getElem?_toList] at e
    rw [e]
    unfold cv
    rw [List.getElem?_map, List.getElem?_eq_getElem hj, List.getD_eq_getElem?_getD, List.getElem?_eq_getElem hj]
    rfl
theorem rw_own {w : World} {B g c : Nat} {l : List Nat} (cur : Array Value) (hg : w.heap[g]? = some (.cells cur 55 (0, 0))) (hB : B ≤ g) (hc : l.length ≤ c) (hm : c ≤ maxLen) (hs : cur.size = c) (ht : cur.toList.take l.length = cv l) :
    w.ownsRow B 55 1 (.slice (some ⟨g, 0, none⟩) l.length c) l.length (cv l) :=
  ⟨by rw [cv_len, Nat.mul_one], Or.inr ⟨g, c, cur, rfl, hB, hg, hc, hm, by rw [hs, Nat.mul_one], by rw [Nat.mul_one]; exact ht⟩⟩
/-- A row that can be appended to. -/
theorem own_again {w w' : World} {B n g c : Nat} {l r : List Nat} (h : w.ownsRow B 55 1 (.slice (some ⟨g, 0, none⟩) n c) n (cv l)) (s : Sv g w w') (hr : Rw w' g r) (hn : r.length = n) : w'.ownsRow B 55 1 (.slice (some ⟨g, 0, none⟩) n c) n (cv r) := by
  rcases h.2 with ⟨h', _⟩ | ⟨g', cap', cur, h', hB, hg, h1, h2, h3, _⟩
  · simp at h'
  · simp only [Value.slice.injEq, Option.some.injEq, Addr.mk.injEq, and_true, true_and] at h'
    obtain ⟨rfl, rfl⟩ := h'
    obtain ⟨c1, e1, s1⟩ := s.shape cur _ hg
    obtain ⟨_, c2, t2, e2, hc⟩ := hr
    rw [e1] at e2
    obtain ⟨rfl, rfl⟩ : c1 = c2 ∧ 55 = t2 := by simpa using e2
    refine ⟨by rw [cv_len, hn, Nat.mul_one], Or.inr ⟨g, c, c1, rfl, hB, e1, h1, h2, by rw [s1, h3], ?_⟩⟩
    refine List.ext_getElem? fun j => ?_
    by_cases hj : j < n
    · rw [List.getElem?_take_of_lt (by omega), Array.getElem?_toList, hc j (by omega)]
      unfold cv
      rw [List.getElem?_map, List.getElem?_eq_getElem (by omega), List.getD_eq_getElem?_getD, List.getElem?_eq_getElem (by omega)]
      rfl
    · rw [List.getElem?_eq_none (by rw [List.length_take]; omega), List.getElem?_eq_none (by rw [cv_len]; omega)]
end Go.Proofs.Ytjfopggpohakkaa
