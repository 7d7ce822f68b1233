/- What measure keeps in memory. -/
import Derived.Test.YtkhgjjbiifbfgaaEl
import Derived.Deep.OwnRows
namespace Go.Proofs.Ytkhgjjbiifbfgaa
open Go.RowKit

/-- What measure has in memory: the costs, the array of rows, the table of steps. -/
structure Mk (B n mb : Nat) (c : Ed.Cs) (W : World) : Prop where
  box : W.heap[B]? = some (.cells #[.int .i64 c.ins, .int .i64 c.del, .int .i64 c.chg, .int .i64 c.swp] 24 (0, 0))
  rows : ∀ t, t < 3 → W.cell? ⟨B + 1, t, none⟩ = some (.slice (some ⟨B + 2 + t, 0, none⟩) (n + 1) (n + 1))
  tab : Tm W mb
  far : B + 5 ≤ mb
theorem Mk.keep {B n mb : Nat} {c : Ed.Cs} {W W' : World} (h : Mk B n mb c W) (hb : ∀ q, q < W.heap.size → (q = B ∨ q = B + 1 ∨ q = mb) → W'.heap[q]? = W.heap[q]?) : Mk B n mb c W' := by
  have l1 := (Array.getElem?_eq_some_iff.1 h.box).1
  have l3 := World.ownsMap.lt h.tab
  refine ⟨(hb B l1 (Or.inl rfl)).trans h.box, fun t ht => ?_, h.tab.keep (hb mb l3 (Or.inr (Or.inr rfl))), h.far⟩
  have l2 := World.block_lt_of_cell? _ _ (h.rows t ht)
  rw [World.cell?_of_block (w := W) (hb (B + 1) l2 (Or.inr (Or.inl rfl))), h.rows t ht]
theorem Mk.sv {B n mb g : Nat} {c : Ed.Cs} {W W' : World} (h : Mk B n mb c W) (k : Sv g W W') (h1 : B + 2 ≤ g) (h2 : g < B + 5) : Mk B n mb c W' :=
  h.keep fun q hq e => k.block q hq (by have := h.far; omega)
theorem Mk.quiet {B n mb : Nat} {c : Ed.Cs} {W W' : World} (h : Mk B n mb c W) (k : Below W.heap.size W W') : Mk B n mb c W' := h.keep fun q hq _ => k.block q hq
theorem Mk.size {B n mb : Nat} {c : Ed.Cs} {W : World} (h : Mk B n mb c W) : B + 5 ≤ W.heap.size := by
  have := World.ownsMap.lt h.tab
  have := h.far
  omega
/-- All but measure's own rows is as it was. -/
structure Stab (B : Nat) (W W' : World) : Prop where
  os : W'.os = W.os
  tape : W'.tape = W.tape
  output : W'.output = W.output
  size : W.heap.size ≤ W'.heap.size
  block : ∀ q, q < W.heap.size → ¬ (B ≤ q ∧ q < B + 5) → W'.heap[q]? = W.heap[q]?
theorem Stab.refl (B : Nat) (W : World) : Stab B W W := ⟨rfl, rfl, rfl, Nat.le_refl _, fun _ _ _ => rfl⟩
theorem Stab.trans {B : Nat} {a b c : World} (h : Stab B a b) (k : Stab B b c) : Stab B a c :=
  ⟨k.os.trans h.os, k.tape.trans h.tape, k.output.trans h.output, Nat.le_trans h.size k.size, fun q hq e => (k.block q (Nat.lt_of_lt_of_le hq h.size) e).trans (h.block q hq e)⟩
theorem Stab.quiet {B : Nat} {a b : World} (k : Below a.heap.size a b) : Stab B a b := ⟨k.os, k.tape, k.output, k.size, fun q hq _ => k.block q hq⟩
theorem Stab.sv {B g : Nat} {a b : World} (k : Sv g a b) (h1 : B ≤ g) (h2 : g < B + 5) : Stab B a b := ⟨k.os, k.tape, k.output, k.size, fun q hq e => k.block q hq (by rintro rfl; exact e ⟨h1, h2⟩)⟩
/-- What a call of 'seen' leaves as it is. -/
structure Seen (B : Nat) (W W' : World) : Prop where
  size : W.heap.size ≤ W'.heap.size
  block : ∀ q, B ≤ q → q < W.heap.size → W'.heap[q]? = W.heap[q]?
theorem Ir.seen {B b n : Nat} {W W' : World} {f : Nat → Int} (h : Ir W b n f) (k : Seen B W W') (hb : B ≤ b) : Ir W' b n f := by
  have hl := h.lt
  obtain ⟨cur, t, hg, hs, hc⟩ := h
  exact ⟨cur, t, (k.block b hb hl).trans hg, hs, hc⟩
theorem Mk.seen {B n mb : Nat} {c : Ed.Cs} {W W' : World} (h : Mk B n mb c W) (k : Seen B W W') : Mk B n mb c W' :=
  h.keep fun q hq e => k.block q (by have := h.far; omega) hq
/-- What 'seen' does with each row. -/
structure Sees (B : Nat) (c : Ed.Cs) (xs ys : Ed.Bs) (g : Nat) (lb : Array Value) (V : World → Nat → Prop) : Prop where
  enters : ∀ args w, (callFunc g args).run Try.prog w = .ok (.enter g args) w
  stab : ∀ W W' i, V W i → Stab B W W' → V W' i
  call : ∀ W i b, V W (i + 1) → B + 5 ≤ W.heap.size → B + 2 ≤ b → b < B + 5 → i ≤ xs.length → Ir W b ys.length (fun j => Ed.ds c (xs.drop i) (ys.drop j)) →
    Calls Try.prog g (#[.int .i64 i, .slice (some ⟨b, 0, none⟩) (ys.length + 1) (ys.length + 1)] ++ lb) W fun e W' => e = .returned (.tuple #[]) ∧ V W' i ∧ Seen B W W'
namespace Ed
theorem st_skip {c : Cs} {D : Bs → Bs → Int} {k : Nat} {xs ys : Bs} (h : xs.length < tk (k + 1)) : st c D (k + 1) xs ys = st c D k xs ys := by
  show opt c D (k + 1) xs ys (st c D k xs ys) = _
  unfold opt
  rw [if_neg]
  intro hf
  have := ft_len hf
  omega
/-- A row, one kind on. -/
theorem st_less (c : Cs) (k i : Nat) (xs ys : Bs) (_hk : 1 ≤ k + 1 ∧ k + 1 ≤ 5) : Less (k + 1) (co c (k + 1)) (xs.drop i) ys (fun j => st c (ds c) k (xs.drop i) (ys.drop j)) (fun j => ds c (xs.drop (i + tk (k + 1))) (ys.drop j)) (fun j => st c (ds c) (k + 1) (xs.drop i) (ys.drop j)) := by
  intro j hj
  show opt c (ds c) (k + 1) (xs.drop i) (ys.drop j) (st c (ds c) k (xs.drop i) (ys.drop j)) = _
  unfold opt
  rw [List.drop_drop, List.drop_drop]
  by_cases hf : ft (k + 1) (xs.drop i) (ys.drop j) = true
  · have := (ft_len hf).2
    rw [List.length_drop] at this
    rw [if_pos hf, if_pos ⟨this, hf⟩]
  · rw [if_neg hf, if_neg (fun e => hf e.2)]
theorem ini_is (xs ys : Bs) (i j : Nat) (hi : i ≤ xs.length) (hj : j ≤ ys.length) : ini (xs.drop i) (ys.drop j) = if i = xs.length ∧ j = ys.length then 0 else 120001 := by
  by_cases h1 : i = xs.length
  · by_cases h2 : j = ys.length
    · rw [if_pos ⟨h1, h2⟩, h1, h2, List.drop_length, List.drop_length]; rfl
    · rw [if_neg (fun e => h2 e.2), h1, List.drop_length, List.drop_eq_getElem_cons (by omega)]; rfl
  · rw [if_neg (fun e => h1 e.1), List.drop_eq_getElem_cons (i := i) (by omega)]
    unfold ini top; rfl
end Ed
end Go.Proofs.Ytkhgjjbiifbfgaa
