/- Contracts of Table, and of the closure that picks long words. -/
import Derived.Test.YtljfbdiiecohpaaFd
namespace Go.Proofs.Ytljfbdiiecohpaa
open Go.RowKit

set_option maxRecDepth 100000 in
theorem ofLong_any (r : Fo.Rd) (k K W : Nat) (x : Fo.Bs) (w : World) (hk : w.cell? ⟨K, 0, none⟩ = some (.int .u8 k)) (hx : w.cell? ⟨W, 0, none⟩ = some (.string ⟨x.toArray⟩)) :
    Calls Try.prog 47 #[.agg #[.int .u8 r.k, .string ⟨r.lg.toArray⟩, .string ⟨r.sh.toArray⟩], .pointer (some ⟨K, 0, none⟩), .pointer (some ⟨W, 0, none⟩)] w fun e w' => e = .returned (.bool (Fo.isL k x r)) ∧ Below w.heap.size w w' := by
  have IK := Lib.hid (fun w => isKind_any r k w)
  have nK : K ≠ w.heap.size := by have := World.block_lt_of_cell? _ _ hk; exact Nat.ne_of_lt this
  have nW : W ≠ w.heap.size := by have := World.block_lt_of_cell? _ _ hx; exact Nat.ne_of_lt this
  have hk1 := fun o => alloc_cell (o := o) hk
  have hx1 := fun o => alloc_cell (o := o) hx
  obtain ⟨a, ha⟩ : ∃ a, a = Fo.isK k r := ⟨_, rfl⟩
  have E : Hid (Fo.isL k x r = (a && r.lg == x)) := by show _ = _; rw [ha]; rfl
  rw [← ha] at IK
  clear ha hk hx
  go_enter Try.func47, Try.ntmps47
  cases a with
  | false =>
    go_wp2_with (go_at_call 48; with_reducible refine (IK.out _).mono ?_; rintro e w2 ⟨rfl, b2⟩)
    go_ret
    rw [E.out]
    exact ⟨rfl, ((Below.refl _ _).alloc (Nat.le_refl _) _).trans (b2.mono (by simp))⟩
  | true =>
    go_wp2_with (go_at_call 48; with_reducible refine (IK.out _).mono ?_; rintro e w2 ⟨rfl, b2⟩; have c1 := boxed_row b2; have hx2 := below_cell b2 (hx1 _))
    go_ret
    rw [E.out]
    exact ⟨rfl, ((Below.refl _ _).alloc (Nat.le_refl _) _).trans (b2.mono (by simp))⟩
/-- Rows as cells. -/
def rcs (l : List Fo.Rd) : List Value := l.flatMap rcells
theorem rcs_nil : rcs [] = [] := rfl
theorem rcs_cons (r : Fo.Rd) (l : List Fo.Rd) : rcs (r :: l) = .int .u8 r.k :: .string ⟨r.lg.toArray⟩ :: .string ⟨r.sh.toArray⟩ :: rcs l := rfl
theorem rcs_app (l m : List Fo.Rd) : rcs (l ++ m) = rcs l ++ rcs m := List.flatMap_append
theorem rcs_len (l : List Fo.Rd) : (rcs l).length = l.length * 3 := by
  induction l with
  | nil => rfl
  | cons r l ih => rw [rcs_cons]; simp only [List.length_cons, ih]; omega
theorem rcs_at : ∀ (l : List Fo.Rd) (j : Nat) (hj : j < l.length), (rcs l)[j * 3]? = some (.int .u8 l[j].k) ∧ (rcs l)[j * 3 + 1]? = some (.string ⟨l[j].lg.toArray⟩) ∧ (rcs l)[j * 3 + 2]? = some (.string ⟨l[j].sh.toArray⟩)
  | [], j, h => by simp at h
  | r :: l, 0, _ => ⟨rfl, rfl, rfl⟩
  | r :: l, j + 1, h => by
    have ih := rcs_at l j (by simpa using h)
    rw [rcs_cons, show (j + 1) * 3 = j * 3 + 1 + 1 + 1 by omega, show j * 3 + 1 + 1 + 1 + 1 = (j * 3 + 1) + 1 + 1 + 1 by omega, show j * 3 + 1 + 1 + 1 + 2 = (j * 3 + 2) + 1 + 1 + 1 by omega]
    simpa only [List.getElem?_cons_succ, List.getElem_cons_succ] using ih
/-- Rows just made. -/
theorem rows_made (w : World) (l : List Fo.Rd) (cs : Array Value) (t : TypeId) (n c : Nat) (h : cs = (rcs l).toArray) (hn : n = l.length) : Rw (w.alloc (.cells cs t)) (.slice (some ⟨w.heap.size, 0, none⟩) n c) l := by
  subst h hn
  refine ⟨_, c, rfl, Or.inr ⟨_, 0, rfl, fun j hj => ?_⟩⟩
  obtain ⟨h1, h2, h3⟩ := rcs_at l j hj
  refine ⟨cell_at _ _ _ _ _ _ rfl ?_, cell_at _ _ _ _ _ _ rfl ?_, cell_at _ _ _ _ _ _ rfl ?_⟩
  · simpa using h1
  · simpa using h2
  · simpa using h3
theorem table_end (w : World) (cs : Array Value) (t : TypeId) (h : cs = (rcs Fo.tbl).toArray) :
    ∃ v, Ending.returned (.slice (some ⟨w.heap.size, 0, none⟩) 40 40) = .returned v ∧ Rw (w.alloc (.cells cs t)) v Fo.tbl ∧ Below w.heap.size w (w.alloc (.cells cs t)) :=
  ⟨_, rfl, rows_made w Fo.tbl cs t 40 40 h rfl, (Below.refl _ _).alloc (Nat.le_refl _) _⟩
end Go.Proofs.Ytljfbdiiecohpaa
