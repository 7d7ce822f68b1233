/- awake: what it is made of. -/
import Derived.Test.YtalldnnegofdkaaEx1
import Derived.Test.YtalldnnegofdkaaEw
import Derived.Test.YtalldnnegofdkaaEv
import Derived.Test.YtalldnnegofdkaaOrd
namespace Go.Proofs.Ytalldnnegofdkaa
open Go.RowKit Go.Shelf

namespace Ed
/-- The rows of awake. -/
def rA (j : Nat) : Bs := match j with | 0 => [82, 79, 65, 68] | 1 => [77, 65, 73, 78] | 2 => [65, 66] | 3 => [67, 65] | _ => [65]
def rB (j : Nat) : Bs := match j with | 0 => [82, 65, 79, 68] | 1 => [77, 65, 73, 78, 69] | 2 => [] | 3 => [65, 66, 67] | _ => [66]
def rC (j : Nat) : Cs := match j with | 4 => ⟨1, 1, 3, 1⟩ | _ => ⟨1, 1, 1, 1⟩
def rN (j : Nat) : Int := match j with | 0 => 1 | 1 => 1 | 2 => 2 | 3 => 3 | _ => 2
def rU (j : Nat) : Bs := match j with | 0 => [] | 1 => [69] | 2 => [] | 3 => [65, 66, 67] | _ => [66]
def rK (j : Nat) : List Nat := match j with | 0 => [1, 3, 1] | 1 => [1, 1, 1, 1, 5] | 2 => [4, 4] | 3 => [2, 2, 5] | _ => [4, 5]
def rL (j : Nat) : List Op := klf (rU j) (rK j)
end Ed
def rowv (j : Nat) (z : Value) : Value := .agg #[sb (Ed.rA j), sb (Ed.rB j), .int .i64 (Ed.rC j).ins, .int .i64 (Ed.rC j).del, .int .i64 (Ed.rC j).chg, .int .i64 (Ed.rC j).swp, .int .i64 (Ed.rN j), z]
/-- The rows in memory. -/
def Rws (w : World) (v : Value) : Prop := ∃ g, v = .slice (some ⟨g, 0, none⟩) 5 5 ∧ ∀ j, j < 5 → ∃ z, Opl w z (Ed.rL j) ∧
  w.cell? ⟨g, j * 8, none⟩ = some (sb (Ed.rA j)) ∧ w.cell? ⟨g, j * 8 + 1, none⟩ = some (sb (Ed.rB j)) ∧ w.cell? ⟨g, j * 8 + 2, none⟩ = some (.int .i64 (Ed.rC j).ins) ∧ w.cell? ⟨g, j * 8 + 3, none⟩ = some (.int .i64 (Ed.rC j).del) ∧
  w.cell? ⟨g, j * 8 + 4, none⟩ = some (.int .i64 (Ed.rC j).chg) ∧ w.cell? ⟨g, j * 8 + 5, none⟩ = some (.int .i64 (Ed.rC j).swp) ∧ w.cell? ⟨g, j * 8 + 6, none⟩ = some (.int .i64 (Ed.rN j)) ∧ w.cell? ⟨g, j * 8 + 7, none⟩ = some z
/-- What each operation of the table leaves. -/
def aV (i : Nat) (v : Value) (w : World) : Prop :=
  match i with
  | 0 | 4 | 8 | 12 => v = cv ⟨1, 1, 1, 1⟩
  | 1 => Kb w v (Ed.rK 0) | 5 => Kb w v (Ed.rK 1) | 9 => Kb w v (Ed.rK 2) | 13 => Kb w v (Ed.rK 3) | 17 => Kb w v (Ed.rK 4)
  | 2 => Opl w v (Ed.rL 0) | 6 => Opl w v (Ed.rL 1) | 10 => Opl w v (Ed.rL 2) | 14 => Opl w v (Ed.rL 3) | 18 => Opl w v (Ed.rL 4)
  | 3 => ∃ z, v = rowv 0 z ∧ Opl w z (Ed.rL 0) | 7 => ∃ z, v = rowv 1 z ∧ Opl w z (Ed.rL 1) | 11 => ∃ z, v = rowv 2 z ∧ Opl w z (Ed.rL 2) | 15 => ∃ z, v = rowv 3 z ∧ Opl w z (Ed.rL 3) | 19 => ∃ z, v = rowv 4 z ∧ Opl w z (Ed.rL 4)
  | 16 => v = cv ⟨1, 1, 3, 1⟩
  | 20 => Rws w v
  | 21 => v = .int .i64 5
  | _ => v = .int .i64 0
theorem Rws.below {w w' : World} {v : Value} (h : Rws w v) (b : Below w.heap.size w w') : Rws w' v := by
  obtain ⟨g, e, h⟩ := h
  refine ⟨g, e, fun j hj => ?_⟩
  obtain ⟨z, h0, h1, h2, h3, h4, h5, h6, h7, h8⟩ := h j hj
  exact ⟨z, h0.below b, below_cell b h1, below_cell b h2, below_cell b h3, below_cell b h4, below_cell b h5, below_cell b h6, below_cell b h7, below_cell b h8⟩
theorem aV_below {i : Nat} {v : Value} {w w' : World} (b : Below w.heap.size w w') : aV i v w → aV i v w' := by
  have k : ∀ {ks}, Kb w v ks → Kb w' v ks := fun h => h.below b
  have o : ∀ {z l}, Opl w z l → Opl w' z l := fun h => h.below b
  have r : ∀ {j}, (∃ z, v = rowv j z ∧ Opl w z (Ed.rL j)) → ∃ z, v = rowv j z ∧ Opl w' z (Ed.rL j) := fun ⟨z, e, h⟩ => ⟨z, e, o h⟩
  unfold aV
  split
  all_goals first
    | exact id
    | exact k
    | exact o
    | exact r
    | exact fun h => h.below b
def upd (x : Nat → Value) (i : Nat) (v : Value) : Nat → Value := fun j => if j = i then v else x j
/-- The frame within the table's statement. -/
def awf (p : Nat) (x : Nat → Value) : Act := { tmps := #[.bool false, .pointer (some ⟨p, 0, none⟩), undef, undef, undef, undef, undef, undef, undef, undef, undef, undef, undef, undef, undef, undef, undef, undef, undef, undef, undef, undef, undef, cv ⟨1, 1, 1, 1⟩, .pointer (some ⟨p, 2, none⟩), x 0, x 1, x 2, x 3, x 4, x 5, x 6, x 7, x 8, x 9, x 10, x 11, x 12, x 13, x 14, x 15, x 16, x 17, x 18, x 19, x 20, x 21, x 22, undef, undef, undef, undef, undef, undef, undef, undef, undef, undef, undef, undef, undef, undef, undef, undef, undef, undef, undef, undef, undef, undef, undef, undef, undef, undef, undef, undef, undef, undef, undef, undef, undef, undef, undef, undef, undef, undef, undef, undef, undef, undef, undef, undef, undef, undef, undef, undef, undef, undef, undef, undef, undef, undef, undef, undef, undef, undef, undef, undef, undef, undef, undef, undef, undef, undef, undef, undef, undef, undef, undef, undef, undef, undef, undef, undef, undef, undef, undef, undef, undef, undef, undef, undef, undef, undef, undef, undef, undef, undef, undef, undef, undef, undef, undef, undef, undef, undef, undef, undef, undef, undef, undef, undef, undef, undef, undef, undef, undef, undef, undef, undef, undef, undef, undef, undef, undef, undef, undef, undef, undef, undef, undef, undef, undef, undef, undef], defers := [] }
/-- The invariant. -/
structure Aw (p : Nat) (w0 : World) (l : Array Bool) (a : Act) (w : World) : Prop where
  size : l.size = 23
  frame : ∃ x, a = awf p x ∧ ∀ j, j < 23 → l.getD j false = true → aV j (x j) w
  bl : Below w0.heap.size w0 w
theorem Aw.put {p i : Nat} {w0 : World} {l : Array Bool} {x : Nat → Value} {w w' : World} {v : Value} {a' : Act} (hs : l.size = 23) (h : ∀ j, j < 23 → l.getD j false = true → aV j (x j) w) (hb : Below w0.heap.size w0 w)
    (b : Below w.heap.size w w') (hv : aV i v w') (ha : a' = awf p (upd x i v)) : Aw p w0 (l.setIfInBounds i true) a' w' := by
  refine ⟨by simpa using hs, ⟨upd x i v, ha, fun j hj hl => ?_⟩, hb.trans (b.mono hb.size)⟩
  by_cases e : j = i
  · subst e
    show aV j (if j = j then v else x j) w'
    rw [if_pos rfl]; exact hv
  · rw [getD_set (fun h => e h.symm)] at hl
    show aV j (if j = i then v else x j) w'
    rw [if_neg e]; exact aV_below b (h j hj hl)
theorem dep {ops : Array Oper} {md : Region.Mode} {l : Array Bool} {i j : Nat} {o : Oper} (hr : i ∈ Region.ready md ops l) (ho : ops[i]? = some o) (h : (o.after.toList.any fun e => Region.binds md e && e.on == j) = true) : l.getD j false = true := by
  obtain ⟨_, o', ho', hall⟩ := mem_ready.1 hr
  rw [ho] at ho'
  cases ho'
  rw [List.any_eq_true] at h
  obtain ⟨e, hk, h⟩ := h
  rw [Bool.and_eq_true_iff, beq_iff_eq] at h
  rw [← h.2]
  exact hall e (by simpa using hk) h.1
end Go.Proofs.Ytalldnnegofdkaa
