/- Texts and rows in memory; the closures that pick rows. -/
import Derived.Test.YtljfbdiiecohpaaFt
import Derived.Test.YtljfbdiiecohpaaSl
import Derived.Shelf.RegionOpen
namespace Go.Proofs.Ytljfbdiiecohpaa
open Go.RowKit

/-- A slice that reads as a list of texts. -/
def Tx (w : World) (v : Value) (l : List Fo.Bs) : Prop := ∃ (a : Option Addr) (c : Nat), v = .slice a l.length c ∧ (l = [] ∨ ∃ b off, a = some ⟨b, off, none⟩ ∧ ∀ j (hj : j < l.length), w.cell? ⟨b, off + j, none⟩ = some (.string ⟨l[j].toArray⟩))
theorem Tx.below {w w' : World} {v : Value} {l : List Fo.Bs} (h : Tx w v l) (hb : Below w.heap.size w w') : Tx w' v l := by
  obtain ⟨a, c, rfl, h⟩ := h
  refine ⟨a, c, rfl, ?_⟩
  rcases h with h | ⟨b, off, ha, h⟩
  · exact Or.inl h
  · exact Or.inr ⟨b, off, ha, fun j hj => (hb.cell (World.block_lt_of_cell? _ _ (h j hj))).trans (h j hj)⟩
theorem Tx.nil (w : World) (a : Option Addr) (c : Nat) : Tx w (.slice a 0 c) [] := ⟨a, c, rfl, Or.inl rfl⟩
/-- A row as a value. -/
def rcells (r : Fo.Rd) : List Value := [.int .u8 r.k, .string ⟨r.lg.toArray⟩, .string ⟨r.sh.toArray⟩]
def rval (r : Fo.Rd) : Value := .agg #[.int .u8 r.k, .string ⟨r.lg.toArray⟩, .string ⟨r.sh.toArray⟩]
/-- A slice that reads as a list of rows. -/
def Rw (w : World) (v : Value) (l : List Fo.Rd) : Prop := ∃ (a : Option Addr) (c : Nat), v = .slice a l.length c ∧ (l = [] ∨ ∃ b off, a = some ⟨b, off, none⟩ ∧ ∀ j (hj : j < l.length),
  w.cell? ⟨b, off + j * 3, none⟩ = some (.int .u8 l[j].k) ∧ w.cell? ⟨b, off + j * 3 + 1, none⟩ = some (.string ⟨l[j].lg.toArray⟩) ∧ w.cell? ⟨b, off + j * 3 + 2, none⟩ = some (.string ⟨l[j].sh.toArray⟩))
theorem Rw.below {w w' : World} {v : Value} {l : List Fo.Rd} (h : Rw w v l) (hb : Below w.heap.size w w') : Rw w' v l := by
  obtain ⟨a, c, rfl, h⟩ := h
  refine ⟨a, c, rfl, ?_⟩
  rcases h with h | ⟨b, off, ha, h⟩
  · exact Or.inl h
  · refine Or.inr ⟨b, off, ha, fun j hj => ?_⟩
    obtain ⟨h1, h2, h3⟩ := h j hj
    exact ⟨(hb.cell (World.block_lt_of_cell? _ _ h1)).trans h1, (hb.cell (World.block_lt_of_cell? _ _ h2)).trans h2, (hb.cell (World.block_lt_of_cell? _ _ h3)).trans h3⟩
set_option maxRecDepth 100000 in
theorem isKind_any (r : Fo.Rd) (k : Nat) (w : World) : Calls Try.prog 48 #[.agg #[.int .u8 r.k, .string ⟨r.lg.toArray⟩, .string ⟨r.sh.toArray⟩], .int .u8 k] w fun e w' => e = .returned (.bool (Fo.isK k r)) ∧ Below w.heap.size w w' := by
  by_cases h0 : k = 0
  · subst h0
    go_enter Try.func48, Try.ntmps48
    go_wp2
    go_ret
    exact ⟨rfl, (Below.refl _ _).alloc (Nat.le_refl _) _⟩
  · have e0 : ((k : Int) == 0) = false := beq_eq_false_iff_ne.2 (by omega)
    have E : Hid (Fo.isK k r = ((r.k : Int) == (k : Int))) := by
      show _ = _
      unfold Fo.isK
      rw [beq_eq_false_iff_ne.2 h0, Bool.false_or, Bool.eq_iff_iff, beq_iff_eq, beq_iff_eq]
      omega
    clear h0
    go_enter Try.func48, Try.ntmps48
    go_wp2
    go_ret
    rw [E.out]
    exact ⟨rfl, (Below.refl _ _).alloc (Nat.le_refl _) _⟩
theorem alloc_cell {w : World} {o : Obj} {p : Addr} {v : Value} (h : w.cell? p = some v) : (w.alloc o).cell? p = some v :=
  (((Below.refl _ w).alloc (Nat.le_refl _) o).cell (World.block_lt_of_cell? _ _ h)).trans h
theorem below_cell {w w' : World} {p : Addr} {v : Value} (b : Below w.heap.size w w') (h : w.cell? p = some v) : w'.cell? p = some v := (b.cell (World.block_lt_of_cell? _ _ h)).trans h
/-- A row in a box, behind a call. -/
theorem boxed_row {w w2 : World} {r : Fo.Rd} (b : Below (w.alloc (.cells #[.int .u8 r.k, .string ⟨r.lg.toArray⟩, .string ⟨r.sh.toArray⟩] 30)).heap.size (w.alloc (.cells #[.int .u8 r.k, .string ⟨r.lg.toArray⟩, .string ⟨r.sh.toArray⟩] 30)) w2) :
    w2.cell? ⟨w.heap.size, 0, none⟩ = some (.int .u8 r.k) ∧ w2.cell? ⟨w.heap.size, 1, none⟩ = some (.string ⟨r.lg.toArray⟩) ∧ w2.cell? ⟨w.heap.size, 2, none⟩ = some (.string ⟨r.sh.toArray⟩) :=
  ⟨below_cell b (cell_at _ _ _ 0 _ _ rfl rfl), below_cell b (cell_at _ _ _ 1 _ _ rfl rfl), below_cell b (cell_at _ _ _ 2 _ _ rfl rfl)⟩
set_option maxRecDepth 100000 in
theorem ofRow_any (r : Fo.Rd) (k K W : Nat) (x : Fo.Bs) (w : World) (hk : w.cell? ⟨K, 0, none⟩ = some (.int .u8 k)) (hx : w.cell? ⟨W, 0, none⟩ = some (.string ⟨x.toArray⟩)) :
    Calls Try.prog 60 #[.agg #[.int .u8 r.k, .string ⟨r.lg.toArray⟩, .string ⟨r.sh.toArray⟩], .pointer (some ⟨K, 0, none⟩), .pointer (some ⟨W, 0, none⟩)] w fun e w' => e = .returned (.bool (Fo.isR k x r)) ∧ Below w.heap.size w w' := by
  have IK := Lib.hid (fun w => isKind_any r k w)
  have nK : K ≠ w.heap.size := by have := World.block_lt_of_cell? _ _ hk; exact Nat.ne_of_lt this
  have nW : W ≠ w.heap.size := by have := World.block_lt_of_cell? _ _ hx; exact Nat.ne_of_lt this
  go_enter Try.func60, Try.ntmps60
  have hk1 := fun o => alloc_cell (o := o) hk
  have hx1 := fun o => alloc_cell (o := o) hx
  obtain ⟨a, ha⟩ : ∃ a, a = Fo.isK k r := ⟨_, rfl⟩
  have E : Hid (Fo.isR k x r = (a && (r.lg == x || r.sh == x))) := by show _ = _; rw [ha]; rfl
  rw [← ha] at IK
  clear ha hk hx
  cases a with
  | false =>
    go_wp2_with (go_at_call 48; with_reducible refine (IK.out _).mono ?_; rintro e w2 ⟨rfl, b2⟩)
    go_ret
    rw [E.out]
    exact ⟨rfl, ((Below.refl _ _).alloc (Nat.le_refl _) _).trans (b2.mono (by simp))⟩
  | true =>
    cases hl : r.lg == x with
    | true =>
      go_wp2_with (go_at_call 48; with_reducible refine (IK.out _).mono ?_; rintro e w2 ⟨rfl, b2⟩; have c1 := boxed_row b2; have hx2 := below_cell b2 (hx1 _))
      go_ret
      rw [E.out, hl]
      exact ⟨rfl, ((Below.refl _ _).alloc (Nat.le_refl _) _).trans (b2.mono (by simp))⟩
    | false =>
      go_wp2_with (go_at_call 48; with_reducible refine (IK.out _).mono ?_; rintro e w2 ⟨rfl, b2⟩; have c1 := boxed_row b2; have hx2 := below_cell b2 (hx1 _))
      go_ret
      rw [E.out, hl]
      exact ⟨rfl, ((Below.refl _ _).alloc (Nat.le_refl _) _).trans (b2.mono (by simp))⟩
end Go.Proofs.Ytljfbdiiecohpaa
