/- What the frames of layer 4's rows share. -/
import Derived.Test.YtjfopggpohakkaaRows
import Derived.Test.YtjfopggpohakkaaSl
import Derived.ProofKit
import Derived.OpenShut
import Derived.Lay
import Derived.ChangeOld
import Derived.Below
namespace Go.Proofs.Ytjfopggpohakkaa
open Go.ChangeShapes Go.WideShapes Go.ChangeAt Go.RowKit

theorem own : ownKnob Try.prog.godebug = none := by kernel_rfl
theorem laidOut : laidOutB Try.prog = true := by kernel_rfl
/-- A slice of integers that came in: nil, or a row. -/
def IsRow (k : IntKind) (w : World) (a : Option Addr) (len cap : Nat) (zs : List Int) : Prop :=
  (a = none ∧ len = 0 ∧ cap = 0 ∧ zs = []) ∨
  ∃ x, a = some x ∧ len ≤ cap ∧ cap ≤ maxLen ∧ zs.length = cap ∧ (∀ i, i < zs.length → w.cell? (x.add i) = some (.int k (zs.getD i 0))) ∧ ∀ n ∈ zs, (Lit.int k n).wf = true
theorem row_at {k : IntKind} {w : World} {a : Option Addr} {len cap : Nat} {zs : List Int} (h : IsRow k w a len cap zs) : (zs.take len).length = len ∧ len ≤ 9223372036854775807 ∧ len ≤ cap ∧ (a = none → cap = 0) ∧ (zs.take len = [] ∨ ∃ b off, a = some ⟨b, off, none⟩ ∧ ∀ j, j < (zs.take len).length → w.cell? ⟨b, off + j, none⟩ = some (.int k ((zs.take len).getD j 0))) ∧ ∀ n ∈ zs.take len, (Lit.int k n).wf = true := by
  rcases h with ⟨rfl, rfl, rfl, rfl⟩ | ⟨x, rfl, hl, hm, hz, hc, hw⟩
  · exact ⟨rfl, by omega, Nat.le_refl _, fun _ => rfl, Or.inl rfl, by simp⟩
  · have e : (zs.take len).length = len := by rw [List.length_take]; omega
    refine ⟨e, by unfold maxLen at hm; omega, hl, (fun e => by cases e), ?_, fun n hn => hw n (List.mem_of_mem_take hn)⟩
    by_cases h0 : len = 0
    · subst h0; exact Or.inl rfl
    · obtain ⟨b, off, rfl, hc'⟩ := ints_at hc (by omega)
      refine Or.inr ⟨b, off, rfl, fun j hj => ?_⟩
      rw [hc' j (by omega)]
      rw [List.getD_eq_getElem?_getD, List.getD_eq_getElem?_getD, List.getElem?_take]
      rw [if_pos (by omega)]
/-- The ints of a slice that came in. -/
theorem sl_of {w : World} {a : Option Addr} {len cap : Nat} {zs : List Int} (h : IsRow .i64 w a len cap zs) : ∃ l : List Int, Sl w (.slice a len cap) l ∧ l.length = len ∧ len ≤ cap ∧ (a = none → cap = 0) ∧ ∀ n ∈ l, (Lit.int .i64 n).wf = true := by
  obtain ⟨e, _, hc, ha, hr, hw⟩ := row_at h
  exact ⟨zs.take len, ⟨a, cap, by rw [e], hr⟩, e, hc, ha, hw⟩
end Go.Proofs.Ytjfopggpohakkaa
