/- Slices of texts in memory; what may have changed while a tree of words grows. -/
import Derived.Test.YtkhgjjbiifbfgaaEr
import Derived.Test.YtkhgjjbiifbfgaaLx
import Derived.Laws.OwnMore
import Derived.Laws.IdiomStrings
import Derived.Maps.OwnSet
import Derived.Maps.RangeWalk
import Derived.Maps.Views
import Derived.Maps.AppendAt
import Derived.Deep.QuietTactic
import Derived.BigQuiet
namespace Go.Proofs.Ytkhgjjbiifbfgaa
open Go.RowKit
open Go.Maps (Keyed)

theorem info_str : (Try.prog.info? 9).map (fun i => (i.zero, i.size, i.bytes)) = some (some (.string ⟨#[]⟩), 1, 16) := by kernel_rfl
/-- A slice that reads as texts. -/
def Tx (w : World) (v : Value) (l : List Ed.Bs) : Prop := ∃ (a : Option Addr) (c : Nat), v = .slice a l.length c ∧ (l = [] ∨ ∃ b off, a = some ⟨b, off, none⟩ ∧ ∀ j (hj : j < l.length), w.cell? ⟨b, off + j, none⟩ = some (.string ⟨l[j].toArray⟩))
theorem kept_cell {w w' : World} {p : Addr} {v : Value} (hb : Below w.heap.size w w') (hc : w.cell? p = some v) : w'.cell? p = some v := (hb.cell (World.block_lt_of_cell? _ _ hc)).trans hc
theorem Tx.below {w w' : World} {v : Value} {l : List Ed.Bs} (h : Tx w v l) (hb : Below w.heap.size w w') : Tx w' v l := by
  obtain ⟨a, c, rfl, h⟩ := h
  refine ⟨a, c, rfl, ?_⟩
  rcases h with h | ⟨b, off, ha, h⟩
  · exact Or.inl h
  · exact Or.inr ⟨b, off, ha, fun j hj => kept_cell hb (h j hj)⟩
/-- Texts as cells. -/
def tcs (l : List Ed.Bs) : List Value := l.map fun x => .string ⟨x.toArray⟩
theorem tcs_len (l : List Ed.Bs) : (tcs l).length = l.length := List.length_map _
theorem tcs_app (l m : List Ed.Bs) : tcs (l ++ m) = tcs l ++ tcs m := List.map_append
theorem tcs_at (l : List Ed.Bs) (j : Nat) (hj : j < l.length) : (tcs l)[j]? = some (.string ⟨l[j].toArray⟩) := by
  unfold tcs
  rw [List.getElem?_map, List.getElem?_eq_getElem hj]; rfl
theorem own_tx {w : World} {B : Nat} {v : Value} {l : List Ed.Bs} (h : w.ownsRow B 9 1 v l.length (tcs l)) : Tx w v l := by
  rcases h.2 with ⟨rfl, hn⟩ | ⟨g, cap, cur, rfl, _, _, hcap, _⟩
  · exact ⟨none, 0, by rw [hn], Or.inl (List.eq_nil_of_length_eq_zero hn)⟩
  · refine ⟨_, cap, rfl, Or.inr ⟨g, 0, rfl, fun j hj => ?_⟩⟩
    rw [Nat.zero_add, h.cellAt _ (by omega), tcs_at l j hj]
theorem own_quiet {w w' : World} {B e size n : Nat} {v : Value} {xs : List Value} (h : w.ownsRow B e size v n xs) (hb : Below w.heap.size w w') : w'.ownsRow B e size v n xs := by
  rcases h with ⟨h1, h2⟩
  refine ⟨h1, ?_⟩
  rcases h2 with h2 | ⟨g, cap, cur, hv, hB, hg, h3⟩
  · exact Or.inl h2
  · exact Or.inr ⟨g, cap, cur, hv, hB, (hb.block g (Array.getElem?_eq_some_iff.1 hg).1).trans hg, h3⟩
/-- A block of cells. -/
def isC : Obj → Bool
  | .cells .. => true
  | _ => false
/-- All that lay below B, and all cells, lie as they lay. -/
structure Kc (B : Nat) (w w' : World) : Prop where
  os : w'.os = w.os
  tape : w'.tape = w.tape
  output : w'.output = w.output
  size : w.heap.size ≤ w'.heap.size
  block : ∀ k o, w.heap[k]? = some o → (k < B ∨ isC o = true) → w'.heap[k]? = some o
theorem Kc.refl (B : Nat) (w : World) : Kc B w w := ⟨rfl, rfl, rfl, Nat.le_refl _, fun _ _ h _ => h⟩
theorem Kc.trans {B : Nat} {a b c : World} (h : Kc B a b) (k : Kc B b c) : Kc B a c :=
  ⟨k.os.trans h.os, k.tape.trans h.tape, k.output.trans h.output, Nat.le_trans h.size k.size, fun i o hi ho => k.block i o (h.block i o hi ho) ho⟩
theorem Kc.of_below {B : Nat} {w w' : World} (h : Below w.heap.size w w') : Kc B w w' :=
  ⟨h.os, h.tape, h.output, h.size, fun k _ hk _ => (h.block k (Array.getElem?_eq_some_iff.1 hk).1).trans hk⟩
theorem Kc.of_map {B m : Nat} {w w' : World} {es : Array MapEntry} {clock : Nat} (h : w.grownBy w' (some m)) (hm : w.heap[m]? = some (.map es clock)) (hB : B ≤ m) : Kc B w w' :=
  ⟨h.os, h.tape, h.output, h.size, fun k o hk ho => by
    have hl := (Array.getElem?_eq_some_iff.1 hk).1
    by_cases e : k = m
    · subst e
      rcases ho with ho | ho
      · omega
      · rw [hm] at hk; cases hk; cases ho
    · exact (h.block k hl (by simpa using e)).trans hk⟩
theorem Kc.below {B : Nat} {w w' : World} (h : Kc B w w') (hB : B ≤ w.heap.size) : Below B w w' :=
  ⟨h.os, h.tape, h.output, h.size, fun k hk => by
    have hl : k < w.heap.size := by omega
    rw [h.block k _ (Array.getElem?_eq_getElem hl) (Or.inl hk), Array.getElem?_eq_getElem hl]⟩
theorem cells_of_cell {w : World} {p : Addr} {v : Value} (hc : w.cell? p = some v) : ∃ o, w.heap[p.block]? = some o ∧ isC o = true := by
  unfold World.cell? at hc
  cases ho : w.heap[p.block]? with
  | none => simp [ho] at hc
  | some o =>
    refine ⟨o, rfl, ?_⟩
    cases o <;> simp_all [isC]
theorem Kc.cell {B : Nat} {w w' : World} {p : Addr} {v : Value} (h : Kc B w w') (hc : w.cell? p = some v) : w'.cell? p = some v := by
  obtain ⟨o, ho, hco⟩ := cells_of_cell hc
  have := h.block _ o ho (Or.inr hco)
  rw [← hc]
  exact World.cell?_of_block (this.trans ho.symm)
theorem Kc.frozen {B : Nat} {w w' : World} {p : Addr} {v : Value} (h : Kc B w w') (hc : w.cell? p = some v) : w'.frozen? p = w.frozen? p := by
  obtain ⟨o, ho, hco⟩ := cells_of_cell hc
  have := h.block _ o ho (Or.inr hco)
  exact World.frozen?_of_block (this.trans ho.symm)
theorem Kc.own {B C e size n : Nat} {w w' : World} {v : Value} {xs : List Value} (k : Kc C w w') (h : w.ownsRow B e size v n xs) : w'.ownsRow B e size v n xs := by
  rcases h with ⟨h1, h2⟩
  refine ⟨h1, ?_⟩
  rcases h2 with h2 | ⟨g, cap, cur, hv, hB, hg, h3⟩
  · exact Or.inl h2
  · exact Or.inr ⟨g, cap, cur, hv, hB, k.block g _ hg (Or.inr rfl), h3⟩
end Go.Proofs.Ytkhgjjbiifbfgaa
