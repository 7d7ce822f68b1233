/- Rows of ints in memory that are written in place; texts cut; costs as values. -/
import Derived.Test.YtkhgjjbiifbfgaaEb
import Derived.Test.YtkhgjjbiifbfgaaEd
import Derived.Laws.Rows
namespace Go.Proofs.Ytkhgjjbiifbfgaa
open Go.RowKit

/-- All blocks but one are as they were. -/
structure Sv (g : Nat) (w w' : World) : Prop where
  os : w'.os = w.os
  tape : w'.tape = w.tape
  output : w'.output = w.output
  size : w.heap.size ≤ w'.heap.size
  block : ∀ k, k < w.heap.size → k ≠ g → w'.heap[k]? = w.heap[k]?
theorem Sv.refl (g : Nat) (w : World) : Sv g w w := ⟨rfl, rfl, rfl, Nat.le_refl _, fun _ _ _ => rfl⟩
theorem Sv.trans {g : Nat} {a b c : World} (h : Sv g a b) (k : Sv g b c) : Sv g a c :=
  ⟨k.os.trans h.os, k.tape.trans h.tape, k.output.trans h.output, Nat.le_trans h.size k.size, fun i hi hg => (k.block i (Nat.lt_of_lt_of_le hi h.size) hg).trans (h.block i hi hg)⟩
theorem Sv.of_below {g : Nat} {w w' : World} (h : Below w.heap.size w w') : Sv g w w' := ⟨h.os, h.tape, h.output, h.size, fun k hk _ => h.block k hk⟩
theorem Sv.set (g j : Nat) (w : World) (v : Value) : Sv g w (w.setCell ⟨g, j, none⟩ v) :=
  ⟨rfl, rfl, rfl, by simp, fun k _ hg => Below.heap_setCell w ⟨g, j, none⟩ v k hg⟩
theorem Sv.cell {g : Nat} {w w' : World} {p : Addr} {v : Value} (h : Sv g w w') (hp : p.block ≠ g) (hc : w.cell? p = some v) : w'.cell? p = some v := by
  have hlt := World.block_lt_of_cell? _ _ hc
  have hb := h.block p.block hlt hp
  have e : w'.cell? p = w.cell? p := by unfold World.cell?; rw [hb]
  rw [e, hc]
theorem Sv.below {g B : Nat} {w w' : World} (h : Sv g w w') (hg : B ≤ g) (hB : B ≤ w.heap.size) : Below B w w' :=
  ⟨h.os, h.tape, h.output, h.size, fun k hk => h.block k (by omega) (by omega)⟩
/-- A block whose cells are ints. -/
def Ir (w : World) (b n : Nat) (f : Nat → Int) : Prop := ∃ (cur : Array Value) (t : TypeId), w.heap[b]? = some (.cells cur t (0, 0)) ∧ cur.size = n + 1 ∧ ∀ j, j ≤ n → cur[j]? = some (.int .i64 (f j))
theorem Ir.lt {w : World} {b n : Nat} {f : Nat → Int} (h : Ir w b n f) : b < w.heap.size := by
  obtain ⟨cur, t, hg, _⟩ := h
  exact (Array.getElem?_eq_some_iff.1 hg).1
theorem Ir.cell {w : World} {b n : Nat} {f : Nat → Int} (h : Ir w b n f) {j : Nat} (hj : j ≤ n) : w.cell? ⟨b, j, none⟩ = some (.int .i64 (f j)) := by
  obtain ⟨cur, t, hg, _, hc⟩ := h
  rw [cell_of_row w b j cur t (0, 0) hg, hc j hj]
theorem Ir.free {w : World} {b n : Nat} {f : Nat → Int} (h : Ir w b n f) (j : Nat) : w.frozen? ⟨b, j, none⟩ = false := by
  obtain ⟨cur, t, hg, _⟩ := h
  simp [World.frozen?, hg]
theorem Ir.congr {w : World} {b n : Nat} {f g : Nat → Int} (h : Ir w b n f) (e : ∀ j, j ≤ n → f j = g j) : Ir w b n g := by
  obtain ⟨cur, t, hg, hs, hc⟩ := h
  exact ⟨cur, t, hg, hs, fun j hj => by rw [hc j hj, e j hj]⟩
theorem Ir.put {w : World} {b n : Nat} {f : Nat → Int} (h : Ir w b n f) (j : Nat) (y : Int) : Ir (w.setCell ⟨b, j, none⟩ (.int .i64 y)) b n (fun i => if i = j then y else f i) := by
  obtain ⟨cur, t, hg, hs, hc⟩ := h
  refine ⟨cur.setIfInBounds j (.int .i64 y), t, heap_setCell_same w b j cur t _ hg, by simpa using hs, fun i hi => ?_⟩
  have := hc i hi
  by_cases e : i = j
  · subst e
    have hs : i < cur.size := (Array.getElem?_eq_some_iff.1 this).1
    simp [hs]
  · show _ = some (Value.int .i64 (if i = j then y else f i))
    rw [if_neg e, ← this]
    simp [Array.getElem?_setIfInBounds]
    intro e2; exact absurd e2.symm e
theorem Ir.sv {w w' : World} {b n g : Nat} {f : Nat → Int} (h : Ir w b n f) (k : Sv g w w') (hb : b ≠ g) : Ir w' b n f := by
  have hl := h.lt
  obtain ⟨cur, t, hg, hs, hc⟩ := h
  exact ⟨cur, t, (k.block b hl hb).trans hg, hs, hc⟩
theorem Ir.quiet {w w' : World} {b n : Nat} {f : Nat → Int} (h : Ir w b n f) (k : Below w.heap.size w w') : Ir w' b n f := by
  have hl := h.lt
  obtain ⟨cur, t, hg, hs, hc⟩ := h
  exact ⟨cur, t, (k.block b hl).trans hg, hs, hc⟩
namespace Ed
theorem extract_is (s : ByteArray) (a b : Nat) : s.extract a b = ⟨((s.data.toList.drop a).take (b - a)).toArray⟩ := by
  apply ByteArray.ext
  rw [ByteArray.data_extract]
  apply Array.ext'
  rw [Array.toList_extract, List.extract_eq_take_drop]
theorem list_size (s : ByteArray) : s.data.toList.length = s.size := Array.length_toList
theorem back (s : ByteArray) : (⟨s.data.toList.toArray⟩ : ByteArray) = s := rfl
theorem size_is (l : Bs) : (⟨l.toArray⟩ : ByteArray).size = l.length := by show l.toArray.size = _; rw [List.size_toArray]
theorem ba_beq (x y : Bs) : decide ((⟨x.toArray⟩ : ByteArray) = ⟨y.toArray⟩) = decide (x = y) := by
  by_cases h : x = y
  · subst h; simp
  · rw [decide_eq_false h, decide_eq_false]
    intro e
    apply h
    have := congrArg (fun b : ByteArray => b.data.toList) e
    simpa using this
end Ed
/-- Costs as a value. -/
abbrev cv (c : Ed.Cs) : Value := .agg #[.int .i64 c.ins, .int .i64 c.del, .int .i64 c.chg, .int .i64 c.swp]
abbrev sb (l : Ed.Bs) : Value := .string ⟨l.toArray⟩
end Go.Proofs.Ytkhgjjbiifbfgaa
