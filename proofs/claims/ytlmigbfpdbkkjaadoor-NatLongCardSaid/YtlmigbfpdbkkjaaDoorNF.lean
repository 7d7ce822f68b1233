/- What the frames of layer 3's rows share. -/
import Derived.Test.YtlmigbfpdbkkjaaDoorRows
import Derived.Test.YtlmigbfpdbkkjaaDoorLm
import Derived.ProofKit
import Derived.OpenShut
import Derived.Lay
import Derived.LaidMore
import Derived.Stop.LaidErr
import Derived.ChangeOld
import Derived.Below
namespace Go.Proofs.YtlmigbfpdbkkjaaDoor
open Go.ChangeShapes Go.WideShapes Go.ChangeAt Go.RowKit

theorem own : ownKnob Tryd.prog.godebug = none := by kernel_rfl
/-- What the rows list. -/
def laidL : List (String × DataW Unit) := Rows.natDividesRow.laid
theorem gl_of {W : World} (_ : laidMetH Tryd.prog laidL W) : True := trivial
theorem door_met (os : Os) (args : Array Value) : laidMetH Tryd.prog laidL ((World.laidAll Tryd.prog os laidL).forCall (fun _ _ => 0) ⟨#[], args, []⟩).memory := by
  rw [MakeChecks.laidMetH_plain _ _ _ (by kernel_rfl)]; exact laidMet_laidAll _ (by kernel_rfl) (by kernel_rfl)
theorem laidOut : laidOutB Tryd.prog = true := by kernel_rfl
/-- A slice of integers that came in: nil, or a row. -/
def IsRow (k : IntKind) (w : World) (a : Option Addr) (len cap : Nat) (zs : List Int) : Prop :=
  (a = none ∧ len = 0 ∧ cap = 0 ∧ zs = []) ∨
  ∃ x, a = some x ∧ len ≤ cap ∧ cap ≤ maxLen ∧ zs.length = cap ∧ (∀ i, i < zs.length → w.cell? (x.add i) = some (.int k (zs.getD i 0))) ∧ ∀ n ∈ zs, (Lit.int k n).wf = true
theorem row_at {k : IntKind} {w : World} {a : Option Addr} {len cap : Nat} {zs : List Int} (h : IsRow k w a len cap zs) : (zs.take len).length = len ∧ len ≤ 9223372036854775807 ∧ len ≤ cap ∧ (a = none → cap = 0) ∧ (zs.take len = [] ∨ ∃ b off, a = some ⟨b, off, none⟩ ∧ ∀ j, j < (zs.take len).length → w.cell? ⟨b, off + j, none⟩ = some (.int k ((zs.take len).getD j 0))) ∧ ∀ n ∈ zs.take len, (Lit.int k n).wf = true := by
  rcases h with ⟨rfl, rfl, rfl, rfl⟩ | ⟨x, rfl, hl, hm, hz, hc, hw⟩
  · exact ⟨rfl, by omega, Nat.le_refl _, fun _ => rfl, Or.inl rfl, by simp⟩
  · have e : (zs.take len).length = len := by rw [List.length_take]; omega
    refine ⟨e, by unfold maxLen at hm; omega, hl, (fun e => by cases e), ?_, fun n hn => hw n (List.mem_of_mem_take hn)⟩
    by_cases h0 : len = 0
    · subst h0; exact Or.inl rfl
    · obtain ⟨b, off, rfl, hc'⟩ := ints_at hc (by omega)
      refine Or.inr ⟨b, off, rfl, fun j hj => ?_⟩
      rw [hc' j (by omega)]
      rw [List.getD_eq_getElem?_getD, List.getD_eq_getElem?_getD, List.getElem?_take]
      rw [if_pos (by omega)]
/-- The limbs of a slice that came in. -/
theorem lm_of {w : World} {a : Option Addr} {len cap : Nat} {zs : List Int} (h : IsRow .u32 w a len cap zs) : ∃ l : List Nat, Lm w (.slice a len cap) l ∧ l.length ≤ 9223372036854775807 := by
  obtain ⟨e, hm, hc, ha, hr, hw⟩ := row_at h
  have wf : ∀ n ∈ zs.take len, 0 ≤ n ∧ n ≤ 4294967295 := by
    intro n hn
    simpa [Lit.wf, IntKind.min, IntKind.max, IntKind.signed, IntKind.bits] using hw n hn
  have el : ((zs.take len).map Int.toNat).length = len := by rw [List.length_map, e]
  refine ⟨(zs.take len).map Int.toNat, ⟨a, cap, by rw [el], ?_, ha, by rw [el]; exact hc, ?_⟩, by rw [el]; exact hm⟩
  · intro x hx
    obtain ⟨n, hn, rfl⟩ := List.mem_map.1 hx
    have := wf n hn
    show n.toNat < 4294967296
    omega
  · rcases hr with hr | ⟨b, off, rfl, hr⟩
    · exact Or.inl (by rw [hr]; rfl)
    · refine Or.inr ⟨b, off, rfl, fun j hj => ?_⟩
      rw [List.length_map] at hj
      rw [hr j hj]
      rw [List.getD_eq_getElem?_getD, List.getD_eq_getElem?_getD, List.getElem?_map, List.getElem?_eq_getElem hj]
      have := wf _ (List.getElem_mem hj)
      show some (Value.int IntKind.u32 ((zs.take len)[j])) = some (Value.int IntKind.u32 (((zs.take len)[j]).toNat : Nat))
      rw [Int.toNat_of_nonneg this.1]
end Go.Proofs.YtlmigbfpdbkkjaaDoor
