/- Bytes in memory: slices made from texts, written in place, and made texts again. -/
import Derived.Test.YtljfbdiiecohpaaFd
import Derived.Laws.IdiomStrings
import Derived.Lib.BufferMore
namespace Go.Proofs.Ytljfbdiiecohpaa
open Go.RowKit

/-- A block whose first cells are bytes, none of them frozen. -/
def Byt (w : World) (p : Nat) (L : List UInt8) : Prop := ∃ (cur : Array Value) (t : TypeId) (lo hi : Nat), w.heap[p]? = some (.cells cur t (lo, hi)) ∧ cur.size ≤ lo ∧ ∀ j (hj : j < L.length), cur[j]? = some (.int .u8 (L[j].toNat : Nat))
theorem Byt.cell {w : World} {p : Nat} {L : List UInt8} (h : Byt w p L) {j : Nat} (hj : j < L.length) : w.cell? ⟨p, j, none⟩ = some (.int .u8 (L[j].toNat : Nat)) := by
  obtain ⟨cur, t, lo, hi, hg, _, hc⟩ := h
  rw [cell_of_row w p j cur t (lo, hi) hg, hc j hj]
theorem Byt.free {w : World} {p : Nat} {L : List UInt8} (h : Byt w p L) {j : Nat} (hj : j < L.length) : w.frozen? ⟨p, j, none⟩ = false := by
  obtain ⟨cur, t, lo, hi, hg, hl, hc⟩ := h
  have := (Array.getElem?_eq_some_iff.1 (hc j hj)).1
  simp [World.frozen?, hg]
  omega
theorem Byt.below {w w' : World} {p : Nat} {L : List UInt8} (h : Byt w p L) (b : Below w.heap.size w w') : Byt w' p L := by
  obtain ⟨cur, t, lo, hi, hg, hl, hc⟩ := h
  exact ⟨cur, t, lo, hi, (b.block p (Array.getElem?_eq_some_iff.1 hg).1).trans hg, hl, hc⟩
theorem Byt.other {w : World} {p q j : Nat} {v : Value} {L : List UInt8} (h : Byt w p L) (hq : p ≠ q) : Byt (w.setCell ⟨q, j, none⟩ v) p L := by
  obtain ⟨cur, t, lo, hi, hg, hl, hc⟩ := h
  exact ⟨cur, t, lo, hi, (Below.heap_setCell _ _ _ _ hq).trans hg, hl, hc⟩
theorem Byt.put {w : World} {p : Nat} {L : List UInt8} (h : Byt w p L) (j : Nat) (y : UInt8) (z : Int) (hz : z = (y.toNat : Nat)) : Byt (w.setCell ⟨p, j, none⟩ (.int .u8 z)) p (L.set j y) := by
  subst hz
  obtain ⟨cur, t, lo, hi, hg, hl, hc⟩ := h
  refine ⟨cur.setIfInBounds j (.int .u8 (y.toNat : Nat)), t, lo, hi, Lib.heap_setCell_same hg _, by simpa using hl, fun i hi => ?_⟩
  rw [List.length_set] at hi
  have := hc i hi
  by_cases e : i = j
  · subst e
    have hs : i < cur.size := (Array.getElem?_eq_some_iff.1 this).1
    rw [List.getElem_set_self]
    simp [hs]
  · rw [List.getElem_set_ne (by omega), ← this]
    simp [Array.getElem?_setIfInBounds]
    intro e2; exact absurd e2.symm e
/-- A slice just made from a text. -/
theorem Byt.made (w : World) (s : ByteArray) (c : Nat) (b : Nat) (hb : b = w.heap.size) : Byt (w.alloc (.cells (bytesRow s c) 5 ((bytesRow s c).size, (bytesRow s c).size + 1))) b s.data.toList := by
  subst hb
  refine ⟨_, _, _, _, heap_alloc_new _ _, Nat.le_refl _, fun j hj => ?_⟩
  rw [Array.length_toList] at hj
  rw [bytesRow_at s c j hj]
  rfl
theorem to_bytes (s : ByteArray) (w : World) : (convert 9 23 (.string s)).run Try.prog w = .ok (.slice (some ⟨w.heap.size, 0, none⟩) s.size (grownCap w s.size 0 5))
    (w.drew.alloc (.cells (bytesRow s (grownCap w s.size 0 5)) 5 ((bytesRow s (grownCap w s.size 0 5)).size, (bytesRow s (grownCap w s.size 0 5)).size + 1))) :=
  run_bytes_of_string w 9 23 5 s Try.underlying9 Try.underlying23 Try.underlying5
theorem of_bytes {w : World} {p n c : Nat} {L : List UInt8} (h : Byt w p L) (hn : n = L.length) : (convert 23 9 (.slice (some ⟨p, 0, none⟩) n c)).run Try.prog w = .ok (.string ⟨L.toArray⟩) w := by
  subst hn
  refine run_convert_bytes_back w _ _ 5 ⟨p, 0, none⟩ _ L Try.underlying23 Try.underlying5 Try.underlying9 fun j hj => ?_
  rw [Go.WideShapes.add_plain, Nat.zero_add, h.cell hj]
namespace Fo
/-- The first bytes turned. -/
def upto (f : UInt8 → UInt8) (k : Nat) (L : Bs) : Bs := (L.take k).map f ++ L.drop k
theorem upto_zero (f : UInt8 → UInt8) (L : Bs) : upto f 0 L = L := rfl
theorem upto_len (f : UInt8 → UInt8) (k : Nat) (L : Bs) : (upto f k L).length = L.length := by
  unfold upto
  rw [List.length_append, List.length_map, List.length_take, List.length_drop]
  omega
theorem upto_all (f : UInt8 → UInt8) (L : Bs) : upto f L.length L = L.map f := by unfold upto; simp
theorem upto_next (f : UInt8 → UInt8) {k : Nat} {L : Bs} (h : k < L.length) : upto f (k + 1) L = (upto f k L).set k (f L[k]) := by
  have hl : ((L.take k).map f).length = k := by rw [List.length_map, List.length_take]; omega
  unfold upto
  rw [List.take_succ_eq_append_getElem h, List.map_append, List.map_cons, List.map_nil, List.append_assoc, List.drop_eq_getElem_cons h]
  conv => rhs; rw [List.set_append_right _ _ (by rw [hl]; exact Nat.le_refl _)]
  rw [hl, Nat.sub_self, List.set_cons_zero]
  rfl
theorem upto_same (f : UInt8 → UInt8) {k : Nat} {L : Bs} (h : k < L.length) (e : f L[k] = L[k]) : upto f (k + 1) L = upto f k L := by
  unfold upto
  rw [List.take_succ_eq_append_getElem h, List.map_append, List.map_cons, List.map_nil, List.append_assoc, e]
  rw [List.drop_eq_getElem_cons h]
  rfl
end Fo
end Go.Proofs.Ytljfbdiiecohpaa
